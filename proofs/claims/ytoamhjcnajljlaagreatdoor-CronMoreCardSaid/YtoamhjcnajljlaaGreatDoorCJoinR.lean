/- The reference's Join, by its contract. -/
import Derived.Test.YtoamhjcnajljlaaGreatDoorCJoinC
namespace Go.Proofs.YtoamhjcnajljlaaGreatDoor.Civ
open Go.RowKit

set_option maxRecDepth 100000 in
set_option maxHeartbeats 4000000 in
theorem refJoin_off (y m d h i s k : Int) (w : World) (hd : ¬ Cal.may y m d) :
    Calls Tryz.prog 31 #[.agg #[.int .i64 y, .int .i64 m, .int .i64 d, .int .i64 h, .int .i64 i, .int .i64 s, .int .i64 k]] w fun e w' => e = .returned (joinOf y m d h i s k) ∧ Below w.heap.size w w' := by
  have HD : Hid (∀ w, Calls Tryz.prog 55 #[.agg #[.int .i64 y, .int .i64 m, .int .i64 d]] w fun e w' => e = .returned (.tuple #[.int .i64 0, .int .i64 2]) ∧ Below w.heap.size w w') := fun w => refDays_out y m d w hd
  have HA := Lib.hid (joinOf_out (y := y) (m := m) (d := d) (h := h) (i := i) (s := s) (k := k) (fun hm => hd hm.1))
  clear hd
  have o0 := Own.new w y m d h i s k
  go_enter Tryz.func31, Tryz.ntmps31
  go_wp2_with fail
  generalize w.alloc (.cells #[.int .i64 y, .int .i64 m, .int .i64 d, .int .i64 h, .int .i64 i, .int .i64 s, .int .i64 k] 35) = W at *
  obtain ⟨c0, c1, c2, c3, c4, c5, c6⟩ := clk_cells o0.row
  go_wp2_with fail
  with_reducible refine (HD.out _).mono ?_
  rintro e w1 ⟨rfl, hb1⟩
  have o1 := o0.below hb1
  clear c0 c1 c2 c3 c4 c5 c6 o0 hb1 HD
  generalize w.heap.size = B at *
  obtain ⟨c0, c1, c2, c3, c4, c5, c6⟩ := clk_cells o1.row
  go_wp2_with fail
  go_quiet (fail)
  go_wp2_with fail
  go_ret2
  exact ⟨by rw [HA.out]; rfl, many_drew o1.bel _⟩

set_option maxRecDepth 100000 in
set_option maxHeartbeats 4000000 in
theorem refJoin_out0 (y m d h i s k : Int) (w : World) (hd : Cal.may y m d)  (hc : h < 0) :
    Calls Tryz.prog 31 #[.agg #[.int .i64 y, .int .i64 m, .int .i64 d, .int .i64 h, .int .i64 i, .int .i64 s, .int .i64 k]] w fun e w' => e = .returned (joinOf y m d h i s k) ∧ Below w.heap.size w w' := by
  have HD : Hid (∀ w, Calls Tryz.prog 55 #[.agg #[.int .i64 y, .int .i64 m, .int .i64 d]] w fun e w' => e = .returned (.tuple #[.int .i64 (Cal.num y m d), .int .i64 0]) ∧ Below w.heap.size w w') := fun w => refDays_in y m d w hd
  have HA := Lib.hid (joinOf_out (y := y) (m := m) (d := d) (h := h) (i := i) (s := s) (k := k) (fun hm => absurd hm.2.1 (by omega)))
  have g0 : decide (h < 0) = true := by simp; omega
  clear hd
  generalize Cal.num y m d = n at *
  have o0 := Own.new w y m d h i s k
  go_enter Tryz.func31, Tryz.ntmps31
  go_wp2_with fail
  generalize w.alloc (.cells #[.int .i64 y, .int .i64 m, .int .i64 d, .int .i64 h, .int .i64 i, .int .i64 s, .int .i64 k] 35) = W at *
  obtain ⟨c0, c1, c2, c3, c4, c5, c6⟩ := clk_cells o0.row
  go_wp2_with fail
  with_reducible refine (HD.out _).mono ?_
  rintro e w1 ⟨rfl, hb1⟩
  have o1 := o0.below hb1
  clear c0 c1 c2 c3 c4 c5 c6 o0 hb1 HD
  generalize w.heap.size = B at *
  obtain ⟨c0, c1, c2, c3, c4, c5, c6⟩ := clk_cells o1.row
  go_wp2_with fail
  go_quiet (fail)
  go_wp2_with fail
  go_ret2
  exact ⟨by rw [HA.out]; rfl, many_drew o1.bel _⟩

set_option maxRecDepth 100000 in
set_option maxHeartbeats 4000000 in
theorem refJoin_out1 (y m d h i s k : Int) (w : World) (hd : Cal.may y m d) (p0 : 0 ≤ h) (hc : 24 ≤ h) :
    Calls Tryz.prog 31 #[.agg #[.int .i64 y, .int .i64 m, .int .i64 d, .int .i64 h, .int .i64 i, .int .i64 s, .int .i64 k]] w fun e w' => e = .returned (joinOf y m d h i s k) ∧ Below w.heap.size w w' := by
  have HD : Hid (∀ w, Calls Tryz.prog 55 #[.agg #[.int .i64 y, .int .i64 m, .int .i64 d]] w fun e w' => e = .returned (.tuple #[.int .i64 (Cal.num y m d), .int .i64 0]) ∧ Below w.heap.size w w') := fun w => refDays_in y m d w hd
  have HA := Lib.hid (joinOf_out (y := y) (m := m) (d := d) (h := h) (i := i) (s := s) (k := k) (fun hm => absurd hm.2.2.1 (by omega)))
  have g0 : decide (h < 0) = false := by simp; omega
  have g1 : decide (24 ≤ h) = true := by simp; omega
  clear hd
  generalize Cal.num y m d = n at *
  have o0 := Own.new w y m d h i s k
  go_enter Tryz.func31, Tryz.ntmps31
  go_wp2_with fail
  generalize w.alloc (.cells #[.int .i64 y, .int .i64 m, .int .i64 d, .int .i64 h, .int .i64 i, .int .i64 s, .int .i64 k] 35) = W at *
  obtain ⟨c0, c1, c2, c3, c4, c5, c6⟩ := clk_cells o0.row
  go_wp2_with fail
  with_reducible refine (HD.out _).mono ?_
  rintro e w1 ⟨rfl, hb1⟩
  have o1 := o0.below hb1
  clear c0 c1 c2 c3 c4 c5 c6 o0 hb1 HD
  generalize w.heap.size = B at *
  obtain ⟨c0, c1, c2, c3, c4, c5, c6⟩ := clk_cells o1.row
  go_wp2_with fail
  go_quiet (fail)
  go_wp2_with fail
  go_ret2
  exact ⟨by rw [HA.out]; rfl, many_drew o1.bel _⟩

set_option maxRecDepth 100000 in
set_option maxHeartbeats 4000000 in
theorem refJoin_out2 (y m d h i s k : Int) (w : World) (hd : Cal.may y m d) (p0 : 0 ≤ h) (p1 : h < 24) (hc : i < 0) :
    Calls Tryz.prog 31 #[.agg #[.int .i64 y, .int .i64 m, .int .i64 d, .int .i64 h, .int .i64 i, .int .i64 s, .int .i64 k]] w fun e w' => e = .returned (joinOf y m d h i s k) ∧ Below w.heap.size w w' := by
  have HD : Hid (∀ w, Calls Tryz.prog 55 #[.agg #[.int .i64 y, .int .i64 m, .int .i64 d]] w fun e w' => e = .returned (.tuple #[.int .i64 (Cal.num y m d), .int .i64 0]) ∧ Below w.heap.size w w') := fun w => refDays_in y m d w hd
  have HA := Lib.hid (joinOf_out (y := y) (m := m) (d := d) (h := h) (i := i) (s := s) (k := k) (fun hm => absurd hm.2.2.2.1 (by omega)))
  have g0 : decide (h < 0) = false := by simp; omega
  have g1 : decide (24 ≤ h) = false := by simp; omega
  have g2 : decide (i < 0) = true := by simp; omega
  clear hd
  generalize Cal.num y m d = n at *
  have o0 := Own.new w y m d h i s k
  go_enter Tryz.func31, Tryz.ntmps31
  go_wp2_with fail
  generalize w.alloc (.cells #[.int .i64 y, .int .i64 m, .int .i64 d, .int .i64 h, .int .i64 i, .int .i64 s, .int .i64 k] 35) = W at *
  obtain ⟨c0, c1, c2, c3, c4, c5, c6⟩ := clk_cells o0.row
  go_wp2_with fail
  with_reducible refine (HD.out _).mono ?_
  rintro e w1 ⟨rfl, hb1⟩
  have o1 := o0.below hb1
  clear c0 c1 c2 c3 c4 c5 c6 o0 hb1 HD
  generalize w.heap.size = B at *
  obtain ⟨c0, c1, c2, c3, c4, c5, c6⟩ := clk_cells o1.row
  go_wp2_with fail
  go_quiet (fail)
  go_wp2_with fail
  go_ret2
  exact ⟨by rw [HA.out]; rfl, many_drew o1.bel _⟩

set_option maxRecDepth 100000 in
set_option maxHeartbeats 4000000 in
theorem refJoin_out3 (y m d h i s k : Int) (w : World) (hd : Cal.may y m d) (p0 : 0 ≤ h) (p1 : h < 24) (p2 : 0 ≤ i) (hc : 60 ≤ i) :
    Calls Tryz.prog 31 #[.agg #[.int .i64 y, .int .i64 m, .int .i64 d, .int .i64 h, .int .i64 i, .int .i64 s, .int .i64 k]] w fun e w' => e = .returned (joinOf y m d h i s k) ∧ Below w.heap.size w w' := by
  have HD : Hid (∀ w, Calls Tryz.prog 55 #[.agg #[.int .i64 y, .int .i64 m, .int .i64 d]] w fun e w' => e = .returned (.tuple #[.int .i64 (Cal.num y m d), .int .i64 0]) ∧ Below w.heap.size w w') := fun w => refDays_in y m d w hd
  have HA := Lib.hid (joinOf_out (y := y) (m := m) (d := d) (h := h) (i := i) (s := s) (k := k) (fun hm => absurd hm.2.2.2.2.1 (by omega)))
  have g0 : decide (h < 0) = false := by simp; omega
  have g1 : decide (24 ≤ h) = false := by simp; omega
  have g2 : decide (i < 0) = false := by simp; omega
  have g3 : decide (60 ≤ i) = true := by simp; omega
  clear hd
  generalize Cal.num y m d = n at *
  have o0 := Own.new w y m d h i s k
  go_enter Tryz.func31, Tryz.ntmps31
  go_wp2_with fail
  generalize w.alloc (.cells #[.int .i64 y, .int .i64 m, .int .i64 d, .int .i64 h, .int .i64 i, .int .i64 s, .int .i64 k] 35) = W at *
  obtain ⟨c0, c1, c2, c3, c4, c5, c6⟩ := clk_cells o0.row
  go_wp2_with fail
  with_reducible refine (HD.out _).mono ?_
  rintro e w1 ⟨rfl, hb1⟩
  have o1 := o0.below hb1
  clear c0 c1 c2 c3 c4 c5 c6 o0 hb1 HD
  generalize w.heap.size = B at *
  obtain ⟨c0, c1, c2, c3, c4, c5, c6⟩ := clk_cells o1.row
  go_wp2_with fail
  go_quiet (fail)
  go_wp2_with fail
  go_ret2
  exact ⟨by rw [HA.out]; rfl, many_drew o1.bel _⟩

set_option maxRecDepth 100000 in
set_option maxHeartbeats 4000000 in
theorem refJoin_out4 (y m d h i s k : Int) (w : World) (hd : Cal.may y m d) (p0 : 0 ≤ h) (p1 : h < 24) (p2 : 0 ≤ i) (p3 : i < 60) (hc : s < 0) :
    Calls Tryz.prog 31 #[.agg #[.int .i64 y, .int .i64 m, .int .i64 d, .int .i64 h, .int .i64 i, .int .i64 s, .int .i64 k]] w fun e w' => e = .returned (joinOf y m d h i s k) ∧ Below w.heap.size w w' := by
  have HD : Hid (∀ w, Calls Tryz.prog 55 #[.agg #[.int .i64 y, .int .i64 m, .int .i64 d]] w fun e w' => e = .returned (.tuple #[.int .i64 (Cal.num y m d), .int .i64 0]) ∧ Below w.heap.size w w') := fun w => refDays_in y m d w hd
  have HA := Lib.hid (joinOf_out (y := y) (m := m) (d := d) (h := h) (i := i) (s := s) (k := k) (fun hm => absurd hm.2.2.2.2.2.1 (by omega)))
  have g0 : decide (h < 0) = false := by simp; omega
  have g1 : decide (24 ≤ h) = false := by simp; omega
  have g2 : decide (i < 0) = false := by simp; omega
  have g3 : decide (60 ≤ i) = false := by simp; omega
  have g4 : decide (s < 0) = true := by simp; omega
  clear hd
  generalize Cal.num y m d = n at *
  have o0 := Own.new w y m d h i s k
  go_enter Tryz.func31, Tryz.ntmps31
  go_wp2_with fail
  generalize w.alloc (.cells #[.int .i64 y, .int .i64 m, .int .i64 d, .int .i64 h, .int .i64 i, .int .i64 s, .int .i64 k] 35) = W at *
  obtain ⟨c0, c1, c2, c3, c4, c5, c6⟩ := clk_cells o0.row
  go_wp2_with fail
  with_reducible refine (HD.out _).mono ?_
  rintro e w1 ⟨rfl, hb1⟩
  have o1 := o0.below hb1
  clear c0 c1 c2 c3 c4 c5 c6 o0 hb1 HD
  generalize w.heap.size = B at *
  obtain ⟨c0, c1, c2, c3, c4, c5, c6⟩ := clk_cells o1.row
  go_wp2_with fail
  go_quiet (fail)
  go_wp2_with fail
  go_ret2
  exact ⟨by rw [HA.out]; rfl, many_drew o1.bel _⟩

set_option maxRecDepth 100000 in
set_option maxHeartbeats 4000000 in
theorem refJoin_out5 (y m d h i s k : Int) (w : World) (hd : Cal.may y m d) (p0 : 0 ≤ h) (p1 : h < 24) (p2 : 0 ≤ i) (p3 : i < 60) (p4 : 0 ≤ s) (hc : 60 ≤ s) :
    Calls Tryz.prog 31 #[.agg #[.int .i64 y, .int .i64 m, .int .i64 d, .int .i64 h, .int .i64 i, .int .i64 s, .int .i64 k]] w fun e w' => e = .returned (joinOf y m d h i s k) ∧ Below w.heap.size w w' := by
  have HD : Hid (∀ w, Calls Tryz.prog 55 #[.agg #[.int .i64 y, .int .i64 m, .int .i64 d]] w fun e w' => e = .returned (.tuple #[.int .i64 (Cal.num y m d), .int .i64 0]) ∧ Below w.heap.size w w') := fun w => refDays_in y m d w hd
  have HA := Lib.hid (joinOf_out (y := y) (m := m) (d := d) (h := h) (i := i) (s := s) (k := k) (fun hm => absurd hm.2.2.2.2.2.2.1 (by omega)))
  have g0 : decide (h < 0) = false := by simp; omega
  have g1 : decide (24 ≤ h) = false := by simp; omega
  have g2 : decide (i < 0) = false := by simp; omega
  have g3 : decide (60 ≤ i) = false := by simp; omega
  have g4 : decide (s < 0) = false := by simp; omega
  have g5 : decide (60 ≤ s) = true := by simp; omega
  clear hd
  generalize Cal.num y m d = n at *
  have o0 := Own.new w y m d h i s k
  go_enter Tryz.func31, Tryz.ntmps31
  go_wp2_with fail
  generalize w.alloc (.cells #[.int .i64 y, .int .i64 m, .int .i64 d, .int .i64 h, .int .i64 i, .int .i64 s, .int .i64 k] 35) = W at *
  obtain ⟨c0, c1, c2, c3, c4, c5, c6⟩ := clk_cells o0.row
  go_wp2_with fail
  with_reducible refine (HD.out _).mono ?_
  rintro e w1 ⟨rfl, hb1⟩
  have o1 := o0.below hb1
  clear c0 c1 c2 c3 c4 c5 c6 o0 hb1 HD
  generalize w.heap.size = B at *
  obtain ⟨c0, c1, c2, c3, c4, c5, c6⟩ := clk_cells o1.row
  go_wp2_with fail
  go_quiet (fail)
  go_wp2_with fail
  go_ret2
  exact ⟨by rw [HA.out]; rfl, many_drew o1.bel _⟩

set_option maxRecDepth 100000 in
set_option maxHeartbeats 4000000 in
theorem refJoin_week (y m d h i s k : Int) (w : World) (hd : Cal.may y m d) (p0 : 0 ≤ h) (p1 : h < 24) (p2 : 0 ≤ i) (p3 : i < 60) (p4 : 0 ≤ s) (p5 : s < 60) :
    Calls Tryz.prog 31 #[.agg #[.int .i64 y, .int .i64 m, .int .i64 d, .int .i64 h, .int .i64 i, .int .i64 s, .int .i64 k]] w fun e w' => e = .returned (joinOf y m d h i s k) ∧ Below w.heap.size w w' := by
  have HD : Hid (∀ w, Calls Tryz.prog 55 #[.agg #[.int .i64 y, .int .i64 m, .int .i64 d]] w fun e w' => e = .returned (.tuple #[.int .i64 (Cal.num y m d), .int .i64 0]) ∧ Below w.heap.size w w') := fun w => refDays_in y m d w hd
  have HA : Hid (joinOf y m d h i s k = if k = Cal.week (Cal.num y m d) then .tuple #[.int .i64 (Cal.num y m d * 86400 + h * 3600 + i * 60 + s), .int .i64 0] else .tuple #[.int .i64 0, .int .i64 2]) := by
    show _ = _
    by_cases hk : k = Cal.week (Cal.num y m d)
    · rw [if_pos hk, joinOf_in ⟨hd, p0, p1, p2, p3, p4, p5, hk⟩]
      rfl
    · rw [if_neg hk, joinOf_out (fun hm => hk hm.2.2.2.2.2.2.2)]
  have HW := Lib.hid (fun w => refWeek_any (Cal.num y m d) w)
  have hr := Cal.num_range hd
  have g0 : decide (h < 0) = false := by simp; omega
  have g1 : decide (24 ≤ h) = false := by simp; omega
  have g2 : decide (i < 0) = false := by simp; omega
  have g3 : decide (60 ≤ i) = false := by simp; omega
  have g4 : decide (s < 0) = false := by simp; omega
  have g5 : decide (60 ≤ s) = false := by simp; omega
  clear hd
  generalize Cal.num y m d = n at *
  generalize Cal.week n = x at *
  have o0 := Own.new w y m d h i s k
  go_enter Tryz.func31, Tryz.ntmps31
  go_wp2_with fail
  generalize w.alloc (.cells #[.int .i64 y, .int .i64 m, .int .i64 d, .int .i64 h, .int .i64 i, .int .i64 s, .int .i64 k] 35) = W at *
  obtain ⟨c0, c1, c2, c3, c4, c5, c6⟩ := clk_cells o0.row
  go_wp2_with fail
  with_reducible refine (HD.out _).mono ?_
  rintro e w1 ⟨rfl, hb1⟩
  have o1 := o0.below hb1
  clear c0 c1 c2 c3 c4 c5 c6 o0 hb1 HD
  generalize w.heap.size = B at *
  obtain ⟨c0, c1, c2, c3, c4, c5, c6⟩ := clk_cells o1.row
  go_wp2_with fail
  clear c0 c1 c2 c3 c4 c5 c6
  have hrow := o1.row
  have oe := Lib.hid o1.siz
  refine wp_region_held_drew (S := fun W => W.heap[B]? = some (clk y m d h i s k)) (by kernel_rfl) hrow (fun hHeld => ?_)
  refine wpAnyH_take (i := 0) (oi := ?_) (v := ?_) ?_ (by kernel_rfl) (by kernel_rfl) (by kernel_rfl) ?_ (Or.inl ⟨?_, ?_⟩) (by assumption) ?_
  rotate_left 2
  focus (simp only [List.getElem?_toArray, List.getElem?_cons_zero]; rfl)
  focus exact fun _ _ _ h => h
  focus rfl
  focus (intro W hS; (try dsimp only at hS); obtain ⟨k0, k1, k2, k3, k4, k5, k6⟩ := clk_cells hS; go_simp; (try with_reducible rfl))
  try simp only [Act.put]
  try simp only [List.setIfInBounds_toArray]
  try simp only [List.set_cons_succ]
  try simp only [List.set_cons_zero]
  refine wpAnyH_take (i := 1) (oi := ?_) (v := ?_) ?_ (by kernel_rfl) (by kernel_rfl) (by kernel_rfl) ?_ (Or.inl ⟨?_, ?_⟩) (by assumption) ?_
  rotate_left 2
  focus (simp only [List.getElem?_toArray, List.getElem?_cons_succ, List.getElem?_cons_zero]; rfl)
  focus exact fun _ _ _ h => h
  focus rfl
  focus (intro W hS; (try dsimp only at hS); obtain ⟨k0, k1, k2, k3, k4, k5, k6⟩ := clk_cells hS; go_simp; (try with_reducible rfl))
  try simp only [Act.put]
  try simp only [List.setIfInBounds_toArray]
  try simp only [List.set_cons_succ]
  try simp only [List.set_cons_zero]
  refine wpAnyH_take (i := 2) (oi := ?_) (v := ?_) ?_ (by kernel_rfl) (by kernel_rfl) (by kernel_rfl) ?_ (Or.inl ⟨?_, ?_⟩) (by assumption) ?_
  rotate_left 2
  focus (simp only [List.getElem?_toArray, List.getElem?_cons_succ, List.getElem?_cons_zero]; rfl)
  focus exact fun _ _ _ h => h
  focus rfl
  focus (intro W hS; (try dsimp only at hS); obtain ⟨k0, k1, k2, k3, k4, k5, k6⟩ := clk_cells hS; go_simp; (try with_reducible rfl))
  try simp only [Act.put]
  try simp only [List.setIfInBounds_toArray]
  try simp only [List.set_cons_succ]
  try simp only [List.set_cons_zero]
  refine wpAnyH_take (i := 3) (oi := ?_) (v := ?_) ?_ (by kernel_rfl) (by kernel_rfl) (by kernel_rfl) ?_ (Or.inl ⟨?_, ?_⟩) (by assumption) ?_
  rotate_left 2
  focus (simp only [List.getElem?_toArray, List.getElem?_cons_succ, List.getElem?_cons_zero]; rfl)
  focus exact fun _ _ _ h => h
  focus rfl
  focus (intro W hS; (try dsimp only at hS); obtain ⟨k0, k1, k2, k3, k4, k5, k6⟩ := clk_cells hS; go_simp; (try with_reducible rfl))
  try simp only [Act.put]
  try simp only [List.setIfInBounds_toArray]
  try simp only [List.set_cons_succ]
  try simp only [List.set_cons_zero]
  refine wpAnyH_take (i := 4) (oi := ?_) (v := ?_) ?_ (by kernel_rfl) (by kernel_rfl) (by kernel_rfl) ?_ (Or.inl ⟨?_, ?_⟩) (by assumption) ?_
  rotate_left 2
  focus (simp only [List.getElem?_toArray, List.getElem?_cons_succ, List.getElem?_cons_zero]; rfl)
  focus exact fun _ _ _ h => h
  focus rfl
  focus (intro W hS; (try dsimp only at hS); obtain ⟨k0, k1, k2, k3, k4, k5, k6⟩ := clk_cells hS; go_simp; (try with_reducible rfl))
  try simp only [Act.put]
  try simp only [List.setIfInBounds_toArray]
  try simp only [List.set_cons_succ]
  try simp only [List.set_cons_zero]
  refine wpAnyH_take (i := 5) (oi := ?_) (v := ?_) ?_ (by kernel_rfl) (by kernel_rfl) (by kernel_rfl) ?_ (Or.inl ⟨?_, ?_⟩) (by assumption) ?_
  rotate_left 2
  focus (simp only [List.getElem?_toArray, List.getElem?_cons_succ, List.getElem?_cons_zero]; rfl)
  focus exact fun _ _ _ h => h
  focus rfl
  focus (intro W hS; (try dsimp only at hS); obtain ⟨k0, k1, k2, k3, k4, k5, k6⟩ := clk_cells hS; go_simp; (try with_reducible rfl))
  try simp only [Act.put]
  try simp only [List.setIfInBounds_toArray]
  try simp only [List.set_cons_succ]
  try simp only [List.set_cons_zero]
  refine wpAnyH_take (i := 6) (oi := ?_) (v := ?_) ?_ (by kernel_rfl) (by kernel_rfl) (by kernel_rfl) ?_ (Or.inl ⟨?_, ?_⟩) (by assumption) ?_
  rotate_left 2
  focus (simp only [List.getElem?_toArray, List.getElem?_cons_succ, List.getElem?_cons_zero]; rfl)
  focus exact fun _ _ _ h => h
  focus rfl
  focus (intro W hS; (try dsimp only at hS); obtain ⟨k0, k1, k2, k3, k4, k5, k6⟩ := clk_cells hS; go_simp; (try with_reducible rfl))
  try simp only [Act.put]
  try simp only [List.setIfInBounds_toArray]
  try simp only [List.set_cons_succ]
  try simp only [List.set_cons_zero]
  refine wpAnyH_take (i := 7) (oi := ?_) (v := ?_) ?_ (by kernel_rfl) (by kernel_rfl) (by kernel_rfl) ?_ (Or.inl ⟨?_, ?_⟩) (by assumption) ?_
  rotate_left 2
  focus (simp only [List.getElem?_toArray, List.getElem?_cons_succ, List.getElem?_cons_zero]; rfl)
  focus exact fun _ _ _ h => h
  focus rfl
  focus (intro W hS; (try dsimp only at hS); obtain ⟨k0, k1, k2, k3, k4, k5, k6⟩ := clk_cells hS; go_simp; (try with_reducible rfl))
  try simp only [Act.put]
  try simp only [List.setIfInBounds_toArray]
  try simp only [List.set_cons_succ]
  try simp only [List.set_cons_zero]
  refine wpAnyH_take (i := 8) (oi := ?_) (v := ?_) ?_ (by kernel_rfl) (by kernel_rfl) (by kernel_rfl) ?_ (Or.inl ⟨?_, ?_⟩) (by assumption) ?_
  rotate_left 2
  focus (simp only [List.getElem?_toArray, List.getElem?_cons_succ, List.getElem?_cons_zero]; rfl)
  focus exact fun _ _ _ h => h
  focus rfl
  focus (intro W hS; (try dsimp only at hS); obtain ⟨k0, k1, k2, k3, k4, k5, k6⟩ := clk_cells hS; go_simp; (try with_reducible rfl))
  try simp only [Act.put]
  try simp only [List.setIfInBounds_toArray]
  try simp only [List.set_cons_succ]
  try simp only [List.set_cons_zero]
  refine wpAnyH_take (i := 9) (oi := ?_) (v := ?_) ?_ (by kernel_rfl) (by kernel_rfl) (by kernel_rfl) ?_ (Or.inl ⟨?_, ?_⟩) (by assumption) ?_
  rotate_left 2
  focus (simp only [List.getElem?_toArray, List.getElem?_cons_succ, List.getElem?_cons_zero]; rfl)
  focus exact fun _ _ _ h => h
  focus rfl
  focus (intro W hS; (try dsimp only at hS); obtain ⟨k0, k1, k2, k3, k4, k5, k6⟩ := clk_cells hS; go_simp; (try with_reducible rfl))
  try simp only [Act.put]
  try simp only [List.setIfInBounds_toArray]
  try simp only [List.set_cons_succ]
  try simp only [List.set_cons_zero]
  refine wpAnyH_take (i := 10) (oi := ?_) (v := ?_) ?_ (by kernel_rfl) (by kernel_rfl) (by kernel_rfl) ?_ (Or.inl ⟨?_, ?_⟩) (by assumption) ?_
  rotate_left 2
  focus (simp only [List.getElem?_toArray, List.getElem?_cons_succ, List.getElem?_cons_zero]; rfl)
  focus exact fun _ _ _ h => h
  focus rfl
  focus (intro W hS; (try dsimp only at hS); obtain ⟨k0, k1, k2, k3, k4, k5, k6⟩ := clk_cells hS; go_simp; (try with_reducible rfl))
  try simp only [Act.put]
  try simp only [List.setIfInBounds_toArray]
  try simp only [List.set_cons_succ]
  try simp only [List.set_cons_zero]
  refine wpAnyH_take (i := 11) (oi := ?_) (v := ?_) ?_ (by kernel_rfl) (by kernel_rfl) (by kernel_rfl) ?_ (Or.inl ⟨?_, ?_⟩) (by assumption) ?_
  rotate_left 2
  focus (simp only [List.getElem?_toArray, List.getElem?_cons_succ, List.getElem?_cons_zero]; rfl)
  focus exact fun _ _ _ h => h
  focus rfl
  focus (intro W hS; (try dsimp only at hS); obtain ⟨k0, k1, k2, k3, k4, k5, k6⟩ := clk_cells hS; go_simp; (try with_reducible rfl))
  try simp only [Act.put]
  try simp only [List.setIfInBounds_toArray]
  try simp only [List.set_cons_succ]
  try simp only [List.set_cons_zero]
  refine wpAnyH_take (i := 12) (oi := ?_) (v := ?_) ?_ (by kernel_rfl) (by kernel_rfl) (by kernel_rfl) ?_ (Or.inl ⟨?_, ?_⟩) (by assumption) ?_
  rotate_left 2
  focus (simp only [List.getElem?_toArray, List.getElem?_cons_succ, List.getElem?_cons_zero]; rfl)
  focus exact fun _ _ _ h => h
  focus rfl
  focus (intro W hS; (try dsimp only at hS); obtain ⟨k0, k1, k2, k3, k4, k5, k6⟩ := clk_cells hS; go_simp; (try with_reducible rfl))
  try simp only [Act.put]
  try simp only [List.setIfInBounds_toArray]
  try simp only [List.set_cons_succ]
  try simp only [List.set_cons_zero]
  refine wpAnyH_take (i := 13) (oi := ?_) (v := ?_) ?_ (by kernel_rfl) (by kernel_rfl) (by kernel_rfl) ?_ (Or.inl ⟨?_, ?_⟩) (by assumption) ?_
  rotate_left 2
  focus (simp only [List.getElem?_toArray, List.getElem?_cons_succ, List.getElem?_cons_zero]; rfl)
  focus exact fun _ _ _ h => h
  focus rfl
  focus (intro W hS; (try dsimp only at hS); obtain ⟨k0, k1, k2, k3, k4, k5, k6⟩ := clk_cells hS; go_simp; (try with_reducible rfl))
  try simp only [Act.put]
  try simp only [List.setIfInBounds_toArray]
  try simp only [List.set_cons_succ]
  try simp only [List.set_cons_zero]
  refine wpAnyH_take (i := 14) (oi := ?_) (v := ?_) ?_ (by kernel_rfl) (by kernel_rfl) (by kernel_rfl) ?_ (Or.inl ⟨?_, ?_⟩) (by assumption) ?_
  rotate_left 2
  focus (simp only [List.getElem?_toArray, List.getElem?_cons_succ, List.getElem?_cons_zero]; rfl)
  focus exact fun _ _ _ h => h
  focus rfl
  focus (intro W hS; (try dsimp only at hS); obtain ⟨k0, k1, k2, k3, k4, k5, k6⟩ := clk_cells hS; go_simp; (try with_reducible rfl))
  try simp only [Act.put]
  try simp only [List.setIfInBounds_toArray]
  try simp only [List.set_cons_succ]
  try simp only [List.set_cons_zero]
  refine wpAnyH_take (i := 15) (oi := ?_) (v := ?_) ?_ (by kernel_rfl) (by kernel_rfl) (by kernel_rfl) ?_ (Or.inl ⟨?_, ?_⟩) (by assumption) ?_
  rotate_left 2
  focus (simp only [List.getElem?_toArray, List.getElem?_cons_succ, List.getElem?_cons_zero]; rfl)
  focus exact fun _ _ _ h => h
  focus rfl
  focus (intro W hS; (try dsimp only at hS); obtain ⟨k0, k1, k2, k3, k4, k5, k6⟩ := clk_cells hS; go_simp; (try with_reducible rfl))
  try simp only [Act.put]
  try simp only [List.setIfInBounds_toArray]
  try simp only [List.set_cons_succ]
  try simp only [List.set_cons_zero]
  refine wpAnyH_take (i := 16) (oi := ?_) (v := ?_) ?_ (by kernel_rfl) (by kernel_rfl) (by kernel_rfl) ?_ (Or.inl ⟨?_, ?_⟩) (by assumption) ?_
  rotate_left 2
  focus (simp only [List.getElem?_toArray, List.getElem?_cons_succ, List.getElem?_cons_zero]; rfl)
  focus exact fun _ _ _ h => h
  focus rfl
  focus (intro W hS; (try dsimp only at hS); obtain ⟨k0, k1, k2, k3, k4, k5, k6⟩ := clk_cells hS; go_simp; (try with_reducible rfl))
  try simp only [Act.put]
  try simp only [List.setIfInBounds_toArray]
  try simp only [List.set_cons_succ]
  try simp only [List.set_cons_zero]
  refine wpAnyH_take (i := 17) (oi := ?_) (v := ?_) ?_ (by kernel_rfl) (by kernel_rfl) (by kernel_rfl) ?_ (Or.inl ⟨?_, ?_⟩) (by assumption) ?_
  rotate_left 2
  focus (simp only [List.getElem?_toArray, List.getElem?_cons_succ, List.getElem?_cons_zero]; rfl)
  focus exact fun _ _ _ h => h
  focus rfl
  focus (intro W hS; (try dsimp only at hS); obtain ⟨k0, k1, k2, k3, k4, k5, k6⟩ := clk_cells hS; go_simp; (try with_reducible rfl))
  try simp only [Act.put]
  try simp only [List.setIfInBounds_toArray]
  try simp only [List.set_cons_succ]
  try simp only [List.set_cons_zero]
  refine wpAnyH_take (i := 18) (oi := ?_) (v := ?_) ?_ (by kernel_rfl) (by kernel_rfl) (by kernel_rfl) ?_ (Or.inl ⟨?_, ?_⟩) (by assumption) ?_
  rotate_left 2
  focus (simp only [List.getElem?_toArray, List.getElem?_cons_succ, List.getElem?_cons_zero]; rfl)
  focus exact fun _ _ _ h => h
  focus rfl
  focus (intro W hS; (try dsimp only at hS); obtain ⟨k0, k1, k2, k3, k4, k5, k6⟩ := clk_cells hS; go_simp; (try with_reducible rfl))
  try simp only [Act.put]
  try simp only [List.setIfInBounds_toArray]
  try simp only [List.set_cons_succ]
  try simp only [List.set_cons_zero]
  refine wpAnyH_take (i := 19) (oi := ?_) (v := ?_) ?_ (by kernel_rfl) (by kernel_rfl) (by kernel_rfl) ?_ (Or.inl ⟨?_, ?_⟩) (by assumption) ?_
  rotate_left 2
  focus (simp only [List.getElem?_toArray, List.getElem?_cons_succ, List.getElem?_cons_zero]; rfl)
  focus exact fun _ _ _ h => h
  focus rfl
  focus (intro W hS; (try dsimp only at hS); obtain ⟨k0, k1, k2, k3, k4, k5, k6⟩ := clk_cells hS; go_simp; (try with_reducible rfl))
  try simp only [Act.put]
  try simp only [List.setIfInBounds_toArray]
  try simp only [List.set_cons_succ]
  try simp only [List.set_cons_zero]
  refine wpAnyH_take (i := 20) (oi := ?_) (v := ?_) ?_ (by kernel_rfl) (by kernel_rfl) (by kernel_rfl) ?_ (Or.inl ⟨?_, ?_⟩) (by assumption) ?_
  rotate_left 2
  focus (simp only [List.getElem?_toArray, List.getElem?_cons_succ, List.getElem?_cons_zero]; rfl)
  focus exact fun _ _ _ h => h
  focus rfl
  focus (intro W hS; (try dsimp only at hS); obtain ⟨k0, k1, k2, k3, k4, k5, k6⟩ := clk_cells hS; go_simp; (try with_reducible rfl))
  try simp only [Act.put]
  try simp only [List.setIfInBounds_toArray]
  try simp only [List.set_cons_succ]
  try simp only [List.set_cons_zero]
  refine wpAnyH_take (i := 21) (oi := ?_) (v := ?_) ?_ (by kernel_rfl) (by kernel_rfl) (by kernel_rfl) ?_ (Or.inl ⟨?_, ?_⟩) (by assumption) ?_
  rotate_left 2
  focus (simp only [List.getElem?_toArray, List.getElem?_cons_succ, List.getElem?_cons_zero]; rfl)
  focus exact fun _ _ _ h => h
  focus rfl
  focus (intro W hS; (try dsimp only at hS); obtain ⟨k0, k1, k2, k3, k4, k5, k6⟩ := clk_cells hS; go_simp; (try with_reducible rfl))
  try simp only [Act.put]
  try simp only [List.setIfInBounds_toArray]
  try simp only [List.set_cons_succ]
  try simp only [List.set_cons_zero]
  refine wpAnyH_take (i := 22) (oi := ?_) (v := ?_) ?_ (by kernel_rfl) (by kernel_rfl) (by kernel_rfl) ?_ (Or.inl ⟨?_, ?_⟩) (by assumption) ?_
  rotate_left 2
  focus (simp only [List.getElem?_toArray, List.getElem?_cons_succ, List.getElem?_cons_zero]; rfl)
  focus exact fun _ _ _ h => h
  focus rfl
  focus (intro W hS; (try dsimp only at hS); obtain ⟨k0, k1, k2, k3, k4, k5, k6⟩ := clk_cells hS; go_simp; (try with_reducible rfl))
  try simp only [Act.put]
  try simp only [List.setIfInBounds_toArray]
  try simp only [List.set_cons_succ]
  try simp only [List.set_cons_zero]
  refine wpAnyH_take (i := 23) (oi := ?_) (v := ?_) ?_ (by kernel_rfl) (by kernel_rfl) (by kernel_rfl) ?_ (Or.inl ⟨?_, ?_⟩) (by assumption) ?_
  rotate_left 2
  focus (simp only [List.getElem?_toArray, List.getElem?_cons_succ, List.getElem?_cons_zero]; rfl)
  focus exact fun _ _ _ h => h
  focus rfl
  focus (intro W hS; (try dsimp only at hS); obtain ⟨k0, k1, k2, k3, k4, k5, k6⟩ := clk_cells hS; go_simp; (try with_reducible rfl))
  try simp only [Act.put]
  try simp only [List.setIfInBounds_toArray]
  try simp only [List.set_cons_succ]
  try simp only [List.set_cons_zero]
  refine wpAnyH_take (i := 24) (oi := ?_) (v := ?_) ?_ (by kernel_rfl) (by kernel_rfl) (by kernel_rfl) ?_ (Or.inl ⟨?_, ?_⟩) (by assumption) ?_
  rotate_left 2
  focus (simp only [List.getElem?_toArray, List.getElem?_cons_succ, List.getElem?_cons_zero]; rfl)
  focus exact fun _ _ _ h => h
  focus rfl
  focus (intro W hS; (try dsimp only at hS); obtain ⟨k0, k1, k2, k3, k4, k5, k6⟩ := clk_cells hS; go_simp; (try with_reducible rfl))
  try simp only [Act.put]
  try simp only [List.setIfInBounds_toArray]
  try simp only [List.set_cons_succ]
  try simp only [List.set_cons_zero]
  refine wpAnyH_take (i := 25) (oi := ?_) (v := ?_) ?_ (by kernel_rfl) (by kernel_rfl) (by kernel_rfl) ?_ (Or.inl ⟨?_, ?_⟩) (by assumption) ?_
  rotate_left 2
  focus (simp only [List.getElem?_toArray, List.getElem?_cons_succ, List.getElem?_cons_zero]; rfl)
  focus exact fun _ _ _ h => h
  focus rfl
  focus (intro W hS; (try dsimp only at hS); obtain ⟨k0, k1, k2, k3, k4, k5, k6⟩ := clk_cells hS; go_simp; (try with_reducible rfl))
  try simp only [Act.put]
  try simp only [List.setIfInBounds_toArray]
  try simp only [List.set_cons_succ]
  try simp only [List.set_cons_zero]
  refine wpAnyH_take (i := 26) (oi := ?_) (v := ?_) ?_ (by kernel_rfl) (by kernel_rfl) (by kernel_rfl) ?_ (Or.inl ⟨?_, ?_⟩) (by assumption) ?_
  rotate_left 2
  focus (simp only [List.getElem?_toArray, List.getElem?_cons_succ, List.getElem?_cons_zero]; rfl)
  focus exact fun _ _ _ h => h
  focus rfl
  focus (intro W hS; (try dsimp only at hS); obtain ⟨k0, k1, k2, k3, k4, k5, k6⟩ := clk_cells hS; go_simp; (try with_reducible rfl))
  try simp only [Act.put]
  try simp only [List.setIfInBounds_toArray]
  try simp only [List.set_cons_succ]
  try simp only [List.set_cons_zero]
  refine wpAnyH_take (i := 27) (oi := ?_) (v := ?_) ?_ (by kernel_rfl) (by kernel_rfl) (by kernel_rfl) ?_ (Or.inl ⟨?_, ?_⟩) (by assumption) ?_
  rotate_left 2
  focus (simp only [List.getElem?_toArray, List.getElem?_cons_succ, List.getElem?_cons_zero]; rfl)
  focus exact fun _ _ _ h => h
  focus rfl
  focus (intro W hS; (try dsimp only at hS); obtain ⟨k0, k1, k2, k3, k4, k5, k6⟩ := clk_cells hS; go_simp; (try with_reducible rfl))
  try simp only [Act.put]
  try simp only [List.setIfInBounds_toArray]
  try simp only [List.set_cons_succ]
  try simp only [List.set_cons_zero]
  refine wpAnyH_take (i := 28) (oi := ?_) (v := ?_) ?_ (by kernel_rfl) (by kernel_rfl) (by kernel_rfl) ?_ (Or.inl ⟨?_, ?_⟩) (by assumption) ?_
  rotate_left 2
  focus (simp only [List.getElem?_toArray, List.getElem?_cons_succ, List.getElem?_cons_zero]; rfl)
  focus exact fun _ _ _ h => h
  focus rfl
  focus (intro W hS; (try dsimp only at hS); obtain ⟨k0, k1, k2, k3, k4, k5, k6⟩ := clk_cells hS; go_simp; (try with_reducible rfl))
  try simp only [Act.put]
  try simp only [List.setIfInBounds_toArray]
  try simp only [List.set_cons_succ]
  try simp only [List.set_cons_zero]
  refine wpAnyH_take (i := 29) (oi := ?_) (v := ?_) ?_ (by kernel_rfl) (by kernel_rfl) (by kernel_rfl) ?_ (Or.inl ⟨?_, ?_⟩) (by assumption) ?_
  rotate_left 2
  focus (simp only [List.getElem?_toArray, List.getElem?_cons_succ, List.getElem?_cons_zero]; rfl)
  focus exact fun _ _ _ h => h
  focus rfl
  focus (intro W hS; (try dsimp only at hS); obtain ⟨k0, k1, k2, k3, k4, k5, k6⟩ := clk_cells hS; go_simp; (try with_reducible rfl))
  try simp only [Act.put]
  try simp only [List.setIfInBounds_toArray]
  try simp only [List.set_cons_succ]
  try simp only [List.set_cons_zero]
  refine wpAnyH_take (i := 30) (oi := ?_) (v := ?_) ?_ (by kernel_rfl) (by kernel_rfl) (by kernel_rfl) ?_ (Or.inl ⟨?_, ?_⟩) (by assumption) ?_
  rotate_left 2
  focus (simp only [List.getElem?_toArray, List.getElem?_cons_succ, List.getElem?_cons_zero]; rfl)
  focus exact fun _ _ _ h => h
  focus rfl
  focus (intro W hS; (try dsimp only at hS); obtain ⟨k0, k1, k2, k3, k4, k5, k6⟩ := clk_cells hS; go_simp; (try with_reducible rfl))
  try simp only [Act.put]
  try simp only [List.setIfInBounds_toArray]
  try simp only [List.set_cons_succ]
  try simp only [List.set_cons_zero]
  refine wpAnyH_take (i := 31) (oi := ?_) (v := ?_) ?_ (by kernel_rfl) (by kernel_rfl) (by kernel_rfl) ?_ (Or.inl ⟨?_, ?_⟩) (by assumption) ?_
  rotate_left 2
  focus (simp only [List.getElem?_toArray, List.getElem?_cons_succ, List.getElem?_cons_zero]; rfl)
  focus exact fun _ _ _ h => h
  focus rfl
  focus (intro W hS; (try dsimp only at hS); obtain ⟨k0, k1, k2, k3, k4, k5, k6⟩ := clk_cells hS; go_simp; (try with_reducible rfl))
  try simp only [Act.put]
  try simp only [List.setIfInBounds_toArray]
  try simp only [List.set_cons_succ]
  try simp only [List.set_cons_zero]
  refine wpAnyH_take (i := 32) (oi := ?_) (v := ?_) ?_ (by kernel_rfl) (by kernel_rfl) (by kernel_rfl) ?_ (Or.inl ⟨?_, ?_⟩) (by assumption) ?_
  rotate_left 2
  focus (simp only [List.getElem?_toArray, List.getElem?_cons_succ, List.getElem?_cons_zero]; rfl)
  focus exact fun _ _ _ h => h
  focus rfl
  focus (intro W hS; (try dsimp only at hS); obtain ⟨k0, k1, k2, k3, k4, k5, k6⟩ := clk_cells hS; go_simp; (try with_reducible rfl))
  try simp only [Act.put]
  try simp only [List.setIfInBounds_toArray]
  try simp only [List.set_cons_succ]
  try simp only [List.set_cons_zero]
  refine wpAnyH_take (i := 33) (oi := ?_) (v := ?_) ?_ (by kernel_rfl) (by kernel_rfl) (by kernel_rfl) ?_ (Or.inl ⟨?_, ?_⟩) (by assumption) ?_
  rotate_left 2
  focus (simp only [List.getElem?_toArray, List.getElem?_cons_succ, List.getElem?_cons_zero]; rfl)
  focus exact fun _ _ _ h => h
  focus rfl
  focus (intro W hS; (try dsimp only at hS); obtain ⟨k0, k1, k2, k3, k4, k5, k6⟩ := clk_cells hS; go_simp; (try with_reducible rfl))
  try simp only [Act.put]
  try simp only [List.setIfInBounds_toArray]
  try simp only [List.set_cons_succ]
  try simp only [List.set_cons_zero]
  refine wpAnyH_take (i := 34) (oi := ?_) (v := ?_) ?_ (by kernel_rfl) (by kernel_rfl) (by kernel_rfl) ?_ (Or.inl ⟨?_, ?_⟩) (by assumption) ?_
  rotate_left 2
  focus (simp only [List.getElem?_toArray, List.getElem?_cons_succ, List.getElem?_cons_zero]; rfl)
  focus exact fun _ _ _ h => h
  focus rfl
  focus (intro W hS; (try dsimp only at hS); obtain ⟨k0, k1, k2, k3, k4, k5, k6⟩ := clk_cells hS; go_simp; (try with_reducible rfl))
  try simp only [Act.put]
  try simp only [List.setIfInBounds_toArray]
  try simp only [List.set_cons_succ]
  try simp only [List.set_cons_zero]
  refine wpAnyH_take (i := 35) (oi := ?_) (v := ?_) ?_ (by kernel_rfl) (by kernel_rfl) (by kernel_rfl) ?_ (Or.inl ⟨?_, ?_⟩) (by assumption) ?_
  rotate_left 2
  focus (simp only [List.getElem?_toArray, List.getElem?_cons_succ, List.getElem?_cons_zero]; rfl)
  focus exact fun _ _ _ h => h
  focus rfl
  focus (intro W hS; (try dsimp only at hS); obtain ⟨k0, k1, k2, k3, k4, k5, k6⟩ := clk_cells hS; go_simp; (try with_reducible rfl))
  try simp only [Act.put]
  try simp only [List.setIfInBounds_toArray]
  try simp only [List.set_cons_succ]
  try simp only [List.set_cons_zero]
  refine wpAnyH_ready (rs := [36]) (by kernel_rfl) (by simp) ?_
  refine AllReadyH.cons (o := ?_) ?_ (fun K hK => ?_) AllReadyH.nil
  rotate_left
  focus (simp only [List.getElem?_toArray, List.getElem?_cons_succ, List.getElem?_cons_zero]; rfl)
  rw [if_pos (by rfl)]
  go_simp
  with_reducible refine (HW.out _).mono ?_
  rintro e w3 ⟨rfl, hb3⟩
  have o2 := o1.drew.below hb3
  have hrow3 := o2.row
  clear hb3
  go_wp2_with fail
  refine hK.out _ _ hrow3 (fun hHeld => ?_)
  clear hK K
  try simp only [Act.put]
  try simp only [List.setIfInBounds_toArray]
  try simp only [List.set_cons_succ]
  try simp only [List.set_cons_zero]
  refine wpAnyH_take (i := 37) (oi := ?_) (v := ?_) ?_ (by kernel_rfl) (by kernel_rfl) (by kernel_rfl) ?_ (Or.inl ⟨?_, ?_⟩) (by assumption) ?_
  rotate_left 2
  focus (simp only [List.getElem?_toArray, List.getElem?_cons_succ, List.getElem?_cons_zero]; rfl)
  focus exact fun _ _ _ h => h
  focus rfl
  focus (intro W hS; (try dsimp only at hS); obtain ⟨k0, k1, k2, k3, k4, k5, k6⟩ := clk_cells hS; go_simp; (try with_reducible rfl))
  try simp only [Act.put]
  try simp only [List.setIfInBounds_toArray]
  try simp only [List.set_cons_succ]
  try simp only [List.set_cons_zero]
  refine wpAnyH_take (i := 38) (oi := ?_) (v := ?_) ?_ (by kernel_rfl) (by kernel_rfl) (by kernel_rfl) ?_ (Or.inl ⟨?_, ?_⟩) (by assumption) ?_
  rotate_left 2
  focus (simp only [List.getElem?_toArray, List.getElem?_cons_succ, List.getElem?_cons_zero]; rfl)
  focus exact fun _ _ _ h => h
  focus rfl
  focus (intro W hS; (try dsimp only at hS); obtain ⟨k0, k1, k2, k3, k4, k5, k6⟩ := clk_cells hS; go_simp; (try with_reducible rfl))
  try simp only [Act.put]
  try simp only [List.setIfInBounds_toArray]
  try simp only [List.set_cons_succ]
  try simp only [List.set_cons_zero]
  refine wpAnyH_done (by kernel_rfl) ?_ _
  obtain ⟨c0, c1, c2, c3, c4, c5, c6⟩ := clk_cells o2.row
  clear hrow hrow3 oe o1
  by_cases hk : k = x
  · subst hk
    go_wp2
    go_ret2
    exact ⟨by rw [HA.out, if_pos trivial, show n * 86400 + h * 3600 + i * 60 + s = ((n * 24 + h) * 60 + i) * 60 + s by omega]; rfl, o2.bel⟩
  · go_wp2
    go_ret2
    exact ⟨by rw [HA.out, if_neg hk]; rfl, o2.bel⟩

theorem refJoin_any (y m d h i s k : Int) (w : World) :
    Calls Tryz.prog 31 #[.agg #[.int .i64 y, .int .i64 m, .int .i64 d, .int .i64 h, .int .i64 i, .int .i64 s, .int .i64 k]] w fun e w' => e = .returned (joinOf y m d h i s k) ∧ Below w.heap.size w w' := by
  by_cases hd : Cal.may y m d
  · by_cases p0 : 0 ≤ h
    · by_cases p1 : h < 24
      · by_cases p2 : 0 ≤ i
        · by_cases p3 : i < 60
          · by_cases p4 : 0 ≤ s
            · by_cases p5 : s < 60
              · exact refJoin_week y m d h i s k w hd p0 p1 p2 p3 p4 p5
              · exact refJoin_out5 y m d h i s k w hd p0 p1 p2 p3 p4 (by omega)
            · exact refJoin_out4 y m d h i s k w hd p0 p1 p2 p3 (by omega)
          · exact refJoin_out3 y m d h i s k w hd p0 p1 p2 (by omega)
        · exact refJoin_out2 y m d h i s k w hd p0 p1 (by omega)
      · exact refJoin_out1 y m d h i s k w hd p0 (by omega)
    · exact refJoin_out0 y m d h i s k w hd (by omega)
  · exact refJoin_off y m d h i s k w hd
end Go.Proofs.YtoamhjcnajljlaaGreatDoor.Civ
