/- stamp.Split and the reference's of a moment, by their contracts. -/
import Derived.Test.YtoghalmjbbkjhaaGreatDoorMal
namespace Go.Proofs.YtoghalmjbbkjhaaGreatDoor.Civ
open Go.RowKit

set_option maxRecDepth 100000 in
set_option maxHeartbeats 1000000 in
theorem refSplit_in (y m d h i s k : Int) (w : World) (hmay : Stm.may y m d h i s k) :
    Calls Tryz.prog 45 #[.int .i64 (Stm.num y m d h i s)] w fun e w' => e = .returned (.tuple #[.agg #[.int .i64 y, .int .i64 m, .int .i64 d, .int .i64 h, .int .i64 i, .int .i64 s, .int .i64 k], .int .i64 0]) ∧ Below w.heap.size w w' := by
  have HO := Lib.hid (fun w => refOf_in y m d w hmay.1)
  have hr := Stm.num_range hmay
  have hn := Cal.num_range hmay.1
  have hk := hmay.2.2.2.2.2.2.2
  obtain ⟨p1, -, -, -, -, -, p2, p3, p4⟩ := Stm.parts hmay
  have HW : Hid (∀ w, Calls Tryz.prog 71 #[.int .i64 (Cal.num y m d)] w fun e w' => e = .returned (.int .i64 k) ∧ Below w.heap.size w w') := fun w => by
    have := refWeek_any (Cal.num y m d) w
    rw [← hk] at this
    exact this
  clear hk hmay
  generalize Stm.num y m d h i s = t at *
  generalize Cal.num y m d = n at *
  have o0 := Own.new w 0 0 0 0 0 0 0
  go_enter Tryz.func45, Tryz.ntmps45
  go_wp2_with fail
  have o1 := Own.newAt o0.bel 0 0 0 h i s 0
  have o0 := o0.alloc (.cells #[.int .i64 0, .int .i64 0, .int .i64 0, .int .i64 h, .int .i64 i, .int .i64 s, .int .i64 0] 49)
  have hne : w.heap.size ≠ (w.alloc (.cells #[.int .i64 0, .int .i64 0, .int .i64 0, .int .i64 0, .int .i64 0, .int .i64 0, .int .i64 0] 49)).heap.size := by simp
  have hB1 : w.heap.size + 1 = (w.alloc (.cells #[.int .i64 0, .int .i64 0, .int .i64 0, .int .i64 0, .int .i64 0, .int .i64 0, .int .i64 0] 49)).heap.size := by simp
  rw [← hB1] at o1 hne
  clear hB1
  generalize (w.alloc (.cells #[.int .i64 0, .int .i64 0, .int .i64 0, .int .i64 0, .int .i64 0, .int .i64 0, .int .i64 0] 49)).alloc (.cells #[.int .i64 0, .int .i64 0, .int .i64 0, .int .i64 h, .int .i64 i, .int .i64 s, .int .i64 0] 49) = W at *
  generalize hB : w.heap.size = B at *
  generalize B + 1 = E at *
  with_reducible refine (HO.out _).mono ?_
  rintro e w1 ⟨rfl, hb1⟩
  have o0 := o0.below hb1
  have o1 := o1.below hb1
  clear hb1 HO hB
  have od := OwnD.newAt o0.bel y m d
  have o0 := o0.alloc (.cells #[.int .i64 y, .int .i64 m, .int .i64 d] 47)
  have o1 := o1.alloc (.cells #[.int .i64 y, .int .i64 m, .int .i64 d] 47)
  obtain ⟨c0, c1, c2, -⟩ := clk_cells o1.row
  have f0 := o1.free 0
  have f1 := o1.free 1
  have f2 := o1.free 2
  go_wp2_with fail
  have o0 := ((o0.other o1.at_ hne 0 (.int .i64 y)).other o1.at_ hne 1 (.int .i64 m)).other o1.at_ hne 2 (.int .i64 d)
  have o1 := ((o1.set0 y).set1 m).set2 d
  clear c0 c1 c2 f0 f1 f2 od
  generalize (((w1.alloc (.cells #[.int .i64 y, .int .i64 m, .int .i64 d] 47)).setCell ⟨E, 0, none⟩ (.int .i64 y)).setCell ⟨E, 1, none⟩ (.int .i64 m)).setCell ⟨E, 2, none⟩ (.int .i64 d) = w2 at *
  with_reducible refine (HW.out _).mono ?_
  rintro e w3 ⟨rfl, hb3⟩
  have o0 := o0.below hb3
  have o1 := o1.below hb3
  obtain ⟨c0, c1, c2, c3, c4, c5, c6⟩ := clk_cells o1.row
  have f0 := o1.free 6
  obtain ⟨d0, d1, d2, d3, d4, d5, d6⟩ := clk_cells o0.row
  have g0 := o0.free 0
  have g1 := o0.free 1
  have g2 := o0.free 2
  have g3 := o0.free 3
  have g4 := o0.free 4
  have g5 := o0.free 5
  have g6 := o0.free 6
  clear hb3 HW
  have hne' := hne.symm
  go_wp2_with fail
  have o3 := ((o0.other o1.at_ hne 6 (.int .i64 k)).wrote (y' := y) (m' := m) (d' := d) (h' := h) (i' := i) (s' := s) (k' := k))
  unfold wroteC at o3
  refine bodyPost_ret (v := .tuple #[.agg #[.int .i64 y, .int .i64 m, .int .i64 d, .int .i64 h, .int .i64 i, .int .i64 s, .int .i64 k], .int .i64 0]) ?_ rfl ⟨rfl, o3.bel⟩
  obtain ⟨e0, e1, e2, e3, e4, e5, e6⟩ := clk_cells o3.row
  generalize (((((((w3.setCell ⟨E, 6, none⟩ (.int .i64 k)).setCell ⟨B, 0, none⟩ (.int .i64 y)).setCell ⟨B, 1, none⟩ (.int .i64 m)).setCell ⟨B, 2, none⟩ (.int .i64 d)).setCell ⟨B, 3, none⟩ (.int .i64 h)).setCell ⟨B, 4, none⟩ (.int .i64 i)).setCell ⟨B, 5, none⟩ (.int .i64 s)).setCell ⟨B, 6, none⟩ (.int .i64 k) = w4 at *
  simp [results, Tryz.results45, go_sem, e0, e1, e2, e3, e4, e5, e6]

set_option maxRecDepth 100000 in
set_option maxHeartbeats 2000000 in
theorem split_in (y m d h i s k : Int) (w : World) (hw : Mon w) (hmay : Stm.may y m d h i s k) :
    Calls Tryz.prog 15 #[.int .i64 (Stm.num y m d h i s)] w fun e w' => e = .returned (.tuple #[.agg #[.int .i64 y, .int .i64 m, .int .i64 d, .int .i64 h, .int .i64 i, .int .i64 s, .int .i64 k], .int .i64 0]) ∧ Below w.heap.size w w' := by
  have HM := MonOn.of hw
  have HO := Lib.hid (fun w hw => of_in y m d w hw hmay.1)
  have hr := Stm.num_range hmay
  have hn := Cal.num_range hmay.1
  have hk := hmay.2.2.2.2.2.2.2
  have hl : 0 ≤ h * 3600 + i * 60 + s := by obtain ⟨-, h2, h3, h4, h5, h6, h7, -⟩ := hmay; omega
  have hl2 : 0 ≤ i * 60 + s := by obtain ⟨-, h2, h3, h4, h5, h6, h7, -⟩ := hmay; omega
  obtain ⟨p1, p2, p3, p4, p5, p6, -⟩ := Stm.parts hmay
  have hlr : h * 3600 + i * 60 + s < 86400 := by obtain ⟨-, h2, h3, h4, h5, h6, h7, -⟩ := hmay; omega
  have q3 : IntKind.i64.wrap ((h * 3600 + i * 60 + s).tdiv 3600) = h := by have hh := hmay.2.1; have hh2 := hmay.2.2.1; rw [Int.tdiv_eq_ediv_of_nonneg hl, p3]; rw [IntKind.wrap_i64]; omega
  have q4 : (h * 3600 + i * 60 + s).tmod 3600 = i * 60 + s := by rw [Int.tmod_eq_emod_of_nonneg hl, p4]
  have q5 : IntKind.i64.wrap ((i * 60 + s).tdiv 60) = i := by have hh := hmay.2.2.2.1; have hh2 := hmay.2.2.2.2.1; rw [Int.tdiv_eq_ediv_of_nonneg hl2, p5]; rw [IntKind.wrap_i64]; omega
  have q6 : (h * 3600 + i * 60 + s).tmod 60 = s := by rw [Int.tmod_eq_emod_of_nonneg hl, p6]
  have HMO : Hid (∀ w, Calls Tryz.prog 34 #[.int .i64 (Stm.num y m d h i s)] w fun e w' => e = .returned (.bool true) ∧ w' = w) := fun w => moment_in _ w hr.1 hr.2
  have HW : Hid (∀ w, Calls Tryz.prog 36 #[.int .i64 (Cal.num y m d)] w fun e w' => e = .returned (.int .i64 k) ∧ Below w.heap.size w w') := fun w => by
    have := week_any (Cal.num y m d) w
    rw [← hk] at this
    exact this
  clear hk hmay hw
  generalize Stm.num y m d h i s = t at *
  generalize Cal.num y m d = n at *
  clear p3 p4 p5 p6
  generalize h * 3600 + i * 60 + s = l at *
  generalize i * 60 + s = l2 at *
  have o0 := Own.new w 0 0 0 0 0 0 0
  go_enter Tryz.func15, Tryz.ntmps15
  go_wp2_with fail
  with_reducible refine (HMO.out _).mono ?_
  rintro e w0 ⟨rfl, rfl⟩
  clear HMO
  generalize w.alloc (.cells #[.int .i64 0, .int .i64 0, .int .i64 0, .int .i64 0, .int .i64 0, .int .i64 0, .int .i64 0] 49) = W at *
  generalize w.heap.size = B at *
  go_wp2_with fail
  with_reducible refine (HO.out _ (HM.on o0.bel)).mono ?_
  rintro e w1 ⟨rfl, hb1⟩
  have o0 := o0.below hb1
  have hBg : w1.heap.size ≠ B := Nat.ne_of_gt o0.siz
  have od := OwnD.newAt o0.bel y m d
  have o0 := o0.alloc (.cells #[.int .i64 y, .int .i64 m, .int .i64 d] 47)
  clear hb1 HO HM hn hr
  go_wp2_with fail
  try simp only [p1, p2]
  generalize (w1.alloc (.cells #[.int .i64 y, .int .i64 m, .int .i64 d] 47)) = w2 at *
  generalize w1.heap.size = g at *
  clear p1 p2
  have oe := Lib.hid od.siz
  have hrow := od.row
  clear od
  refine wp_region_held_drew (S := fun W => W.heap[g]? = some (triple y m d)) (by kernel_rfl) hrow (fun hHeld => ?_)
  refine wpAnyH_take (i := 0) (oi := ?_) (v := ?_) ?_ (by kernel_rfl) (by kernel_rfl) (by kernel_rfl) ?_ (Or.inl ⟨?_, ?_⟩) (by assumption) ?_
  rotate_left 2
  focus (simp only [List.getElem?_toArray, List.getElem?_cons_zero]; rfl)
  focus exact fun _ _ _ h => h
  focus rfl
  focus (intro W hS; (try dsimp only at hS); obtain ⟨k0, k1, k2⟩ := triple_cells hS; go_simp; (try with_reducible rfl))
  try simp only [Act.put]
  try simp only [List.setIfInBounds_toArray]
  try simp only [List.set_cons_succ]
  try simp only [List.set_cons_zero]
  refine wpAnyH_take (i := 1) (oi := ?_) (v := ?_) ?_ (by kernel_rfl) (by kernel_rfl) (by kernel_rfl) ?_ (Or.inl ⟨?_, ?_⟩) (by assumption) ?_
  rotate_left 2
  focus (simp only [List.getElem?_toArray, List.getElem?_cons_succ, List.getElem?_cons_zero]; rfl)
  focus exact fun _ _ _ h => h
  focus rfl
  focus (intro W hS; (try dsimp only at hS); obtain ⟨k0, k1, k2⟩ := triple_cells hS; go_simp; (try with_reducible rfl))
  try simp only [Act.put]
  try simp only [List.setIfInBounds_toArray]
  try simp only [List.set_cons_succ]
  try simp only [List.set_cons_zero]
  refine wpAnyH_take (i := 2) (oi := ?_) (v := ?_) ?_ (by kernel_rfl) (by kernel_rfl) (by kernel_rfl) ?_ (Or.inl ⟨?_, ?_⟩) (by assumption) ?_
  rotate_left 2
  focus (simp only [List.getElem?_toArray, List.getElem?_cons_succ, List.getElem?_cons_zero]; rfl)
  focus exact fun _ _ _ h => h
  focus rfl
  focus (intro W hS; (try dsimp only at hS); obtain ⟨k0, k1, k2⟩ := triple_cells hS; go_simp; (try with_reducible rfl))
  try simp only [Act.put]
  try simp only [List.setIfInBounds_toArray]
  try simp only [List.set_cons_succ]
  try simp only [List.set_cons_zero]
  refine wpAnyH_take (i := 3) (oi := ?_) (v := ?_) ?_ (by kernel_rfl) (by kernel_rfl) (by kernel_rfl) ?_ (Or.inl ⟨?_, ?_⟩) (by assumption) ?_
  rotate_left 2
  focus (simp only [List.getElem?_toArray, List.getElem?_cons_succ, List.getElem?_cons_zero]; rfl)
  focus exact fun _ _ _ h => h
  focus rfl
  focus (intro W hS; (try dsimp only at hS); obtain ⟨k0, k1, k2⟩ := triple_cells hS; go_simp; (try with_reducible rfl))
  try simp only [Act.put]
  try simp only [List.setIfInBounds_toArray]
  try simp only [List.set_cons_succ]
  try simp only [List.set_cons_zero]
  refine wpAnyH_take (i := 4) (oi := ?_) (v := ?_) ?_ (by kernel_rfl) (by kernel_rfl) (by kernel_rfl) ?_ (Or.inl ⟨?_, ?_⟩) (by assumption) ?_
  rotate_left 2
  focus (simp only [List.getElem?_toArray, List.getElem?_cons_succ, List.getElem?_cons_zero]; rfl)
  focus exact fun _ _ _ h => h
  focus rfl
  focus (intro W hS; (try dsimp only at hS); obtain ⟨k0, k1, k2⟩ := triple_cells hS; go_simp; (try with_reducible rfl))
  try simp only [Act.put]
  try simp only [List.setIfInBounds_toArray]
  try simp only [List.set_cons_succ]
  try simp only [List.set_cons_zero]
  refine wpAnyH_take (i := 5) (oi := ?_) (v := ?_) ?_ (by kernel_rfl) (by kernel_rfl) (by kernel_rfl) ?_ (Or.inl ⟨?_, ?_⟩) (by assumption) ?_
  rotate_left 2
  focus (simp only [List.getElem?_toArray, List.getElem?_cons_succ, List.getElem?_cons_zero]; rfl)
  focus exact fun _ _ _ h => h
  focus rfl
  focus (intro W hS; (try dsimp only at hS); obtain ⟨k0, k1, k2⟩ := triple_cells hS; go_simp; (try with_reducible rfl))
  try simp only [Act.put]
  try simp only [List.setIfInBounds_toArray]
  try simp only [List.set_cons_succ]
  try simp only [List.set_cons_zero]
  refine wpAnyH_take (i := 6) (oi := ?_) (v := ?_) ?_ (by kernel_rfl) (by kernel_rfl) (by kernel_rfl) ?_ (Or.inl ⟨?_, ?_⟩) (by assumption) ?_
  rotate_left 2
  focus (simp only [List.getElem?_toArray, List.getElem?_cons_succ, List.getElem?_cons_zero]; rfl)
  focus exact fun _ _ _ h => h
  focus rfl
  focus (intro W hS; (try dsimp only at hS); obtain ⟨k0, k1, k2⟩ := triple_cells hS; go_simp; (try with_reducible rfl))
  try simp only [Act.put]
  try simp only [List.setIfInBounds_toArray]
  try simp only [List.set_cons_succ]
  try simp only [List.set_cons_zero]
  refine wpAnyH_take (i := 7) (oi := ?_) (v := ?_) ?_ (by kernel_rfl) (by kernel_rfl) (by kernel_rfl) ?_ (Or.inl ⟨?_, ?_⟩) (by assumption) ?_
  rotate_left 2
  focus (simp only [List.getElem?_toArray, List.getElem?_cons_succ, List.getElem?_cons_zero]; rfl)
  focus exact fun _ _ _ h => h
  focus rfl
  focus (intro W hS; (try dsimp only at hS); obtain ⟨k0, k1, k2⟩ := triple_cells hS; go_simp; (try with_reducible rfl))
  try simp only [Act.put]
  try simp only [List.setIfInBounds_toArray]
  try simp only [List.set_cons_succ]
  try simp only [List.set_cons_zero]
  refine wpAnyH_take (i := 8) (oi := ?_) (v := ?_) ?_ (by kernel_rfl) (by kernel_rfl) (by kernel_rfl) ?_ (Or.inl ⟨?_, ?_⟩) (by assumption) ?_
  rotate_left 2
  focus (simp only [List.getElem?_toArray, List.getElem?_cons_succ, List.getElem?_cons_zero]; rfl)
  focus exact fun _ _ _ h => h
  focus rfl
  focus (intro W hS; (try dsimp only at hS); obtain ⟨k0, k1, k2⟩ := triple_cells hS; go_simp; (try with_reducible rfl))
  try simp only [Act.put]
  try simp only [List.setIfInBounds_toArray]
  try simp only [List.set_cons_succ]
  try simp only [List.set_cons_zero]
  refine wpAnyH_ready (rs := [9]) (by kernel_rfl) (by simp) ?_
  refine AllReadyH.cons (o := ?_) ?_ (fun K hK => ?_) AllReadyH.nil
  rotate_left
  focus (simp only [List.getElem?_toArray, List.getElem?_cons_succ, List.getElem?_cons_zero]; rfl)
  rw [if_pos (by rfl)]
  go_simp
  with_reducible refine (HW.out _).mono ?_
  rintro e w3 ⟨rfl, hb3⟩
  have o0 := o0.drew.below hb3
  have hs3 : g < w2.drew.heap.size := oe.out
  have hrow3 := (hb3.block _ hs3).trans hrow
  clear hb3 hs3
  go_wp2_with fail
  refine hK.out _ _ hrow3 (fun hHeld => ?_)
  clear hK K
  try simp only [Act.put]
  try simp only [List.setIfInBounds_toArray]
  try simp only [List.set_cons_succ]
  try simp only [List.set_cons_zero]
  refine wpAnyH_take (i := 10) (oi := ?_) (v := ?_) ?_ (by kernel_rfl) (by kernel_rfl) (by kernel_rfl) ?_ (Or.inl ⟨?_, ?_⟩) (by assumption) ?_
  rotate_left 2
  focus (simp only [List.getElem?_toArray, List.getElem?_cons_succ, List.getElem?_cons_zero]; rfl)
  focus exact fun _ _ _ h => h
  focus rfl
  focus (intro W hS; (try dsimp only at hS); obtain ⟨k0, k1, k2⟩ := triple_cells hS; go_simp; (try with_reducible rfl))
  try simp only [Act.put]
  try simp only [List.setIfInBounds_toArray]
  try simp only [List.set_cons_succ]
  try simp only [List.set_cons_zero]
  have ho := (setRow_other w3 B g #[.int .i64 y, .int .i64 m, .int .i64 d, .int .i64 h, .int .i64 i, .int .i64 s, .int .i64 k] hBg).trans hrow3
  have o3 := o0.put y m d h i s k
  have ho0 := o0.row
  refine wpAnyH_ready (rs := [11]) (by kernel_rfl) (by simp) ?_
  refine AllReadyH.cons (o := ?_) ?_ (fun K hK => ?_) AllReadyH.nil
  rotate_left
  focus (simp only [List.getElem?_toArray, List.getElem?_cons_succ, List.getElem?_cons_zero]; rfl)
  rw [if_pos (by rfl)]
  refine wp_store_row 49 _ _ rfl B #[.int .i64 y, .int .i64 m, .int .i64 d, .int .i64 h, .int .i64 i, .int .i64 s, .int .i64 k] rfl rfl 49 #[.int .i64 0, .int .i64 0, .int .i64 0, .int .i64 0, .int .i64 0, .int .i64 0, .int .i64 0] ho0 (by kernel_rfl) rfl (by kernel_rfl) ?_
  refine hK.out _ _ ?_ (fun hHeld => ?_)
  focus exact ho
  clear hK K
  try simp only [Act.put]
  try simp only [List.setIfInBounds_toArray]
  try simp only [List.set_cons_succ]
  try simp only [List.set_cons_zero]
  refine wpAnyH_take (i := 12) (oi := ?_) (v := ?_) ?_ (by kernel_rfl) (by kernel_rfl) (by kernel_rfl) ?_ (Or.inl ⟨?_, ?_⟩) (by assumption) ?_
  rotate_left 2
  focus (simp only [List.getElem?_toArray, List.getElem?_cons_succ, List.getElem?_cons_zero]; rfl)
  focus exact fun _ _ _ h => h
  focus rfl
  focus (intro W hS; (try dsimp only at hS); obtain ⟨k0, k1, k2⟩ := triple_cells hS; go_simp; (try with_reducible rfl))
  try simp only [Act.put]
  try simp only [List.setIfInBounds_toArray]
  try simp only [List.set_cons_succ]
  try simp only [List.set_cons_zero]
  refine wpAnyH_done (by kernel_rfl) ?_ _
  generalize w3.setRow B #[.int .i64 y, .int .i64 m, .int .i64 d, .int .i64 h, .int .i64 i, .int .i64 s, .int .i64 k] = w4 at *
  go_wp2
  refine bodyPost_ret (v := .tuple #[.agg #[.int .i64 y, .int .i64 m, .int .i64 d, .int .i64 h, .int .i64 i, .int .i64 s, .int .i64 k], .int .i64 0]) ?_ rfl ⟨rfl, o3.bel⟩
  obtain ⟨e0, e1, e2, e3, e4, e5, e6⟩ := clk_cells o3.row
  simp [results, Tryz.results15, go_sem, e0, e1, e2, e3, e4, e5, e6]
end Go.Proofs.YtoghalmjbbkjhaaGreatDoor.Civ
