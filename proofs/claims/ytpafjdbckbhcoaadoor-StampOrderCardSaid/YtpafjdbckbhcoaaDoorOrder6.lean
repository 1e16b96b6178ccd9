/- The law StampOrder: its walk, of one moment twice, and of any. -/
import Derived.Test.YtpafjdbckbhcoaaDoorOrder5
namespace Go.Proofs.YtpafjdbckbhcoaaDoor
open Go.RowKit

set_option maxRecDepth 100000 in
set_option maxHeartbeats 8000000 in
theorem stampOrder_same (y m d h i x k  S  which by_ : Int) (w : World) (hw : Mon w) (hp : Pow w) (hm : Stm.may y m d h i x k) (hn : Stm.num y m d h i x = S) 
    (hby : -9223372036854775808 ≤ by_ ∧ by_ ≤ 9223372036854775807) :
    Calls Tryd.prog 5 #[.int .i64 S, .int .i64 S, .int .i64 which, .int .i64 by_] w fun e w' => e = .returned (.bool true) ∧ Below w.heap.size w w' := by
  have HM := MonOn.of hw
  have HP := PowOn.of hp
  have hr := Stm.num_range hm
  have H1 : Hid (∀ w, Mon w → Calls Tryd.prog 6 #[.int .i64 S] w fun e w' => e = .returned (.tuple #[.agg #[.int .i64 y, .int .i64 m, .int .i64 d, .int .i64 h, .int .i64 i, .int .i64 x, .int .i64 k], .int .i64 0]) ∧ Below w.heap.size w w') := fun w hw => by rw [← hn]; exact split_in y m d h i x k w hw hm
  have H2 := H1
  have H3 : Hid (∀ w, Mon w → Calls Tryd.prog 12 #[.agg #[.int .i64 y, .int .i64 m, .int .i64 d, .int .i64 h, .int .i64 i, .int .i64 x, .int .i64 k]] w fun e w' => e = .returned (.tuple #[.int .i64 S, .int .i64 0]) ∧ Below w.heap.size w w') := fun w hw => by rw [← hn]; exact join_in y m d h i x k w hw hm
  have H4 : Hid (∀ w, Mon w → Calls Tryd.prog 14 #[.agg #[.int .i64 y, .int .i64 m, .int .i64 d, .int .i64 h, .int .i64 i, .int .i64 x, .int .i64 k]] w fun e w' => e = .returned (.bool true) ∧ Below w.heap.size w w') := fun w hw => by
    have := mayC_any y m d h i x k w hw
    rw [decide_eq_true hm] at this
    exact this
  have H5 : Hid (∀ w, Mon w → Pow w → Calls Tryd.prog 15 #[.agg #[.int .i64 y, .int .i64 m, .int .i64 d, .int .i64 h, .int .i64 i, .int .i64 x, .int .i64 k]] w fun e w' => e = .returned (.string (str (Stm.txt y m d h i x))) ∧ Below w.heap.size w w') := fun w hw hp => by
    have := text_any y m d h i x k w hw hp
    rw [textOf_in hm] at this
    exact this
  have H6 := H5
  have hless := Stm.txt_less hm hm
  rw [hn, ← str_toList (Stm.txt y m d h i x)] at hless
  have hlen : (str (Stm.txt y m d h i x)).size = 19 := by rw [str_size, Stm.txt_length]
  rw [hn] at hr
  have HM1 := Lib.hid hm
  have HN1 := Lib.hid hn
  clear hw hp hm hn 
  generalize Stm.txt y m d h i x = TA at *
  
  go_enter Tryd.func5, Tryd.ntmps5
  go_wp2_with fail
  with_reducible refine (knownS_any _ (HM.on (Below.refl _ _)) (HP.on (Below.refl _ _))).mono ?_
  rintro e w0 ⟨rfl, b0⟩
  go_wp2_with fail
  with_reducible refine (H1.out _ (HM.on b0)).mono ?_
  rintro e w1 ⟨rfl, hb⟩
  have b1 := b0.trans (hb.mono b0.size)
  have oa := Own.newAt b1 y m d h i x k
  clear hb b0 b1
  go_wp2_with fail
  generalize w1.alloc (.cells #[.int .i64 y, .int .i64 m, .int .i64 d, .int .i64 h, .int .i64 i, .int .i64 x, .int .i64 k] 25) = w2 at *
  generalize w1.heap.size = E at *
  with_reducible refine (H2.out _ (HM.on oa.bel)).mono ?_
  rintro e w3 ⟨rfl, hb⟩
  have hEF : E ≠ w3.heap.size := Nat.ne_of_lt (Nat.lt_of_lt_of_le oa.siz hb.size)
  have ob := Own.newAt (oa.below hb).bel y m d h i x k
  have oa := (oa.below hb).alloc (.cells #[.int .i64 y, .int .i64 m, .int .i64 d, .int .i64 h, .int .i64 i, .int .i64 x, .int .i64 k] 25)
  clear hb
  obtain ⟨c0, c1, c2, c3, c4, c5, c6⟩ := clk_cells oa.row
  go_wp2_with fail
  generalize w3.alloc (.cells #[.int .i64 y, .int .i64 m, .int .i64 d, .int .i64 h, .int .i64 i, .int .i64 x, .int .i64 k] 25) = w4 at *
  generalize w3.heap.size = F at *
  with_reducible refine (H3.out _ (HM.on oa.bel)).mono ?_
  rintro e w5 ⟨rfl, hb⟩
  have oa := oa.below hb
  have ob := ob.below hb
  clear c0 c1 c2 c3 c4 c5 c6 hb
  go_wp2_with fail
  have hrow := And.intro oa.row ob.row
  refine wp_region_held_drew (S := fun W => W.heap[E]? = some (clk y m d h i x k) ∧ W.heap[F]? = some (clk y m d h i x k)) (by kernel_rfl) hrow (fun hHeld => ?_)
  refine wpAnyH_take (i := 0) (oi := ?_) (v := ?_) ?_ (by kernel_rfl) (by kernel_rfl) (by kernel_rfl) ?_ (Or.inl ⟨?_, ?_⟩) (by assumption) ?_
  rotate_left 2
  focus (simp only [List.getElem?_toArray, List.getElem?_cons_zero]; rfl)
  focus exact fun _ _ _ h => h
  focus rfl
  focus (intro W hS; (try dsimp only at hS); obtain ⟨⟨k0, k1, k2, k3, k4, k5, k6⟩, l0, l1, l2, l3, l4, l5, l6⟩ := And.intro (clk_cells hS.1) (clk_cells hS.2); go_simp; (try with_reducible rfl))
  try simp only [Act.put]
  try simp only [List.setIfInBounds_toArray]
  try simp only [List.set_cons_succ]
  try simp only [List.set_cons_zero]
  refine wpAnyH_take (i := 1) (oi := ?_) (v := ?_) ?_ (by kernel_rfl) (by kernel_rfl) (by kernel_rfl) ?_ (Or.inl ⟨?_, ?_⟩) (by assumption) ?_
  rotate_left 2
  focus (simp only [List.getElem?_toArray, List.getElem?_cons_succ, List.getElem?_cons_zero]; rfl)
  focus exact fun _ _ _ h => h
  focus rfl
  focus (intro W hS; (try dsimp only at hS); obtain ⟨⟨k0, k1, k2, k3, k4, k5, k6⟩, l0, l1, l2, l3, l4, l5, l6⟩ := And.intro (clk_cells hS.1) (clk_cells hS.2); go_simp; (try with_reducible rfl))
  try simp only [Act.put]
  try simp only [List.setIfInBounds_toArray]
  try simp only [List.set_cons_succ]
  try simp only [List.set_cons_zero]
  refine wpAnyH_take (i := 2) (oi := ?_) (v := ?_) ?_ (by kernel_rfl) (by kernel_rfl) (by kernel_rfl) ?_ (Or.inl ⟨?_, ?_⟩) (by assumption) ?_
  rotate_left 2
  focus (simp only [List.getElem?_toArray, List.getElem?_cons_succ, List.getElem?_cons_zero]; rfl)
  focus exact fun _ _ _ h => h
  focus rfl
  focus (intro W hS; (try dsimp only at hS); obtain ⟨⟨k0, k1, k2, k3, k4, k5, k6⟩, l0, l1, l2, l3, l4, l5, l6⟩ := And.intro (clk_cells hS.1) (clk_cells hS.2); go_simp; (try with_reducible rfl))
  try simp only [Act.put]
  try simp only [List.setIfInBounds_toArray]
  try simp only [List.set_cons_succ]
  try simp only [List.set_cons_zero]
  refine wpAnyH_take (i := 3) (oi := ?_) (v := ?_) ?_ (by kernel_rfl) (by kernel_rfl) (by kernel_rfl) ?_ (Or.inl ⟨?_, ?_⟩) (by assumption) ?_
  rotate_left 2
  focus (simp only [List.getElem?_toArray, List.getElem?_cons_succ, List.getElem?_cons_zero]; rfl)
  focus exact fun _ _ _ h => h
  focus rfl
  focus (intro W hS; (try dsimp only at hS); obtain ⟨⟨k0, k1, k2, k3, k4, k5, k6⟩, l0, l1, l2, l3, l4, l5, l6⟩ := And.intro (clk_cells hS.1) (clk_cells hS.2); go_simp; (try with_reducible rfl))
  try simp only [Act.put]
  try simp only [List.setIfInBounds_toArray]
  try simp only [List.set_cons_succ]
  try simp only [List.set_cons_zero]
  refine wpAnyH_take (i := 4) (oi := ?_) (v := ?_) ?_ (by kernel_rfl) (by kernel_rfl) (by kernel_rfl) ?_ (Or.inl ⟨?_, ?_⟩) (by assumption) ?_
  rotate_left 2
  focus (simp only [List.getElem?_toArray, List.getElem?_cons_succ, List.getElem?_cons_zero]; rfl)
  focus exact fun _ _ _ h => h
  focus rfl
  focus (intro W hS; (try dsimp only at hS); obtain ⟨⟨k0, k1, k2, k3, k4, k5, k6⟩, l0, l1, l2, l3, l4, l5, l6⟩ := And.intro (clk_cells hS.1) (clk_cells hS.2); go_simp; (try with_reducible rfl))
  try simp only [Act.put]
  try simp only [List.setIfInBounds_toArray]
  try simp only [List.set_cons_succ]
  try simp only [List.set_cons_zero]
  refine wpAnyH_take (i := 5) (oi := ?_) (v := ?_) ?_ (by kernel_rfl) (by kernel_rfl) (by kernel_rfl) ?_ (Or.inl ⟨?_, ?_⟩) (by assumption) ?_
  rotate_left 2
  focus (simp only [List.getElem?_toArray, List.getElem?_cons_succ, List.getElem?_cons_zero]; rfl)
  focus exact fun _ _ _ h => h
  focus rfl
  focus (intro W hS; (try dsimp only at hS); obtain ⟨⟨k0, k1, k2, k3, k4, k5, k6⟩, l0, l1, l2, l3, l4, l5, l6⟩ := And.intro (clk_cells hS.1) (clk_cells hS.2); go_simp; (try with_reducible rfl))
  try simp only [Act.put]
  try simp only [List.setIfInBounds_toArray]
  try simp only [List.set_cons_succ]
  try simp only [List.set_cons_zero]
  refine wpAnyH_take (i := 6) (oi := ?_) (v := ?_) ?_ (by kernel_rfl) (by kernel_rfl) (by kernel_rfl) ?_ (Or.inl ⟨?_, ?_⟩) (by assumption) ?_
  rotate_left 2
  focus (simp only [List.getElem?_toArray, List.getElem?_cons_succ, List.getElem?_cons_zero]; rfl)
  focus exact fun _ _ _ h => h
  focus rfl
  focus (intro W hS; (try dsimp only at hS); obtain ⟨⟨k0, k1, k2, k3, k4, k5, k6⟩, l0, l1, l2, l3, l4, l5, l6⟩ := And.intro (clk_cells hS.1) (clk_cells hS.2); go_simp; (try with_reducible rfl))
  try simp only [Act.put]
  try simp only [List.setIfInBounds_toArray]
  try simp only [List.set_cons_succ]
  try simp only [List.set_cons_zero]
  refine wpAnyH_take (i := 7) (oi := ?_) (v := ?_) ?_ (by kernel_rfl) (by kernel_rfl) (by kernel_rfl) ?_ (Or.inl ⟨?_, ?_⟩) (by assumption) ?_
  rotate_left 2
  focus (simp only [List.getElem?_toArray, List.getElem?_cons_succ, List.getElem?_cons_zero]; rfl)
  focus exact fun _ _ _ h => h
  focus rfl
  focus (intro W hS; (try dsimp only at hS); obtain ⟨⟨k0, k1, k2, k3, k4, k5, k6⟩, l0, l1, l2, l3, l4, l5, l6⟩ := And.intro (clk_cells hS.1) (clk_cells hS.2); go_simp; (try with_reducible rfl))
  try simp only [Act.put]
  try simp only [List.setIfInBounds_toArray]
  try simp only [List.set_cons_succ]
  try simp only [List.set_cons_zero]
  refine wpAnyH_take (i := 8) (oi := ?_) (v := ?_) ?_ (by kernel_rfl) (by kernel_rfl) (by kernel_rfl) ?_ (Or.inl ⟨?_, ?_⟩) (by assumption) ?_
  rotate_left 2
  focus (simp only [List.getElem?_toArray, List.getElem?_cons_succ, List.getElem?_cons_zero]; rfl)
  focus exact fun _ _ _ h => h
  focus rfl
  focus (intro W hS; (try dsimp only at hS); obtain ⟨⟨k0, k1, k2, k3, k4, k5, k6⟩, l0, l1, l2, l3, l4, l5, l6⟩ := And.intro (clk_cells hS.1) (clk_cells hS.2); go_simp; (try with_reducible rfl))
  try simp only [Act.put]
  try simp only [List.setIfInBounds_toArray]
  try simp only [List.set_cons_succ]
  try simp only [List.set_cons_zero]
  refine wpAnyH_ready (rs := [9]) (by kernel_rfl) (by simp) ?_
  refine AllReadyH.cons (o := ?_) ?_ (fun K hK => ?_) AllReadyH.nil
  rotate_left
  focus (simp only [List.getElem?_toArray, List.getElem?_cons_succ, List.getElem?_cons_zero]; rfl)
  rw [if_pos (by rfl)]
  go_simp
  with_reducible refine (H4.out _ (HM.on oa.drew.bel)).mono ?_
  rintro e u0 ⟨rfl, hv0⟩
  have p0 := oa.drew.below hv0
  have r0 := ob.drew.below hv0
  have hrow0 := And.intro p0.row r0.row
  go_wp2_with fail
  refine hK.out _ _ hrow0 (fun hHeld => ?_)
  clear hK K
  try simp only [Act.put]
  try simp only [List.setIfInBounds_toArray]
  try simp only [List.set_cons_succ]
  try simp only [List.set_cons_zero]
  refine wpAnyH_take (i := 10) (oi := ?_) (v := ?_) ?_ (by kernel_rfl) (by kernel_rfl) (by kernel_rfl) ?_ (Or.inl ⟨?_, ?_⟩) (by assumption) ?_
  rotate_left 2
  focus (simp only [List.getElem?_toArray, List.getElem?_cons_succ, List.getElem?_cons_zero]; rfl)
  focus exact fun _ _ _ h => h
  focus rfl
  focus (intro W hS; (try dsimp only at hS); obtain ⟨⟨k0, k1, k2, k3, k4, k5, k6⟩, l0, l1, l2, l3, l4, l5, l6⟩ := And.intro (clk_cells hS.1) (clk_cells hS.2); go_simp; (try with_reducible rfl))
  try simp only [Act.put]
  try simp only [List.setIfInBounds_toArray]
  try simp only [List.set_cons_succ]
  try simp only [List.set_cons_zero]
  refine wpAnyH_take (i := 11) (oi := ?_) (v := ?_) ?_ (by kernel_rfl) (by kernel_rfl) (by kernel_rfl) ?_ (Or.inl ⟨?_, ?_⟩) (by assumption) ?_
  rotate_left 2
  focus (simp only [List.getElem?_toArray, List.getElem?_cons_succ, List.getElem?_cons_zero]; rfl)
  focus exact fun _ _ _ h => h
  focus rfl
  focus (intro W hS; (try dsimp only at hS); obtain ⟨⟨k0, k1, k2, k3, k4, k5, k6⟩, l0, l1, l2, l3, l4, l5, l6⟩ := And.intro (clk_cells hS.1) (clk_cells hS.2); go_simp; (try with_reducible rfl))
  try simp only [Act.put]
  try simp only [List.setIfInBounds_toArray]
  try simp only [List.set_cons_succ]
  try simp only [List.set_cons_zero]
  refine wpAnyH_take (i := 12) (oi := ?_) (v := ?_) ?_ (by kernel_rfl) (by kernel_rfl) (by kernel_rfl) ?_ (Or.inl ⟨?_, ?_⟩) (by assumption) ?_
  rotate_left 2
  focus (simp only [List.getElem?_toArray, List.getElem?_cons_succ, List.getElem?_cons_zero]; rfl)
  focus exact fun _ _ _ h => h
  focus rfl
  focus (intro W hS; (try dsimp only at hS); obtain ⟨⟨k0, k1, k2, k3, k4, k5, k6⟩, l0, l1, l2, l3, l4, l5, l6⟩ := And.intro (clk_cells hS.1) (clk_cells hS.2); go_simp; (try with_reducible rfl))
  try simp only [Act.put]
  try simp only [List.setIfInBounds_toArray]
  try simp only [List.set_cons_succ]
  try simp only [List.set_cons_zero]
  refine wpAnyH_take (i := 13) (oi := ?_) (v := ?_) ?_ (by kernel_rfl) (by kernel_rfl) (by kernel_rfl) ?_ (Or.inl ⟨?_, ?_⟩) (by assumption) ?_
  rotate_left 2
  focus (simp only [List.getElem?_toArray, List.getElem?_cons_succ, List.getElem?_cons_zero]; rfl)
  focus exact fun _ _ _ h => h
  focus rfl
  focus (intro W hS; (try dsimp only at hS); obtain ⟨⟨k0, k1, k2, k3, k4, k5, k6⟩, l0, l1, l2, l3, l4, l5, l6⟩ := And.intro (clk_cells hS.1) (clk_cells hS.2); go_simp; (try with_reducible rfl))
  try simp only [Act.put]
  try simp only [List.setIfInBounds_toArray]
  try simp only [List.set_cons_succ]
  try simp only [List.set_cons_zero]
  refine wpAnyH_take (i := 15) (oi := ?_) (v := ?_) ?_ (by kernel_rfl) (by kernel_rfl) (by kernel_rfl) ?_ (Or.inl ⟨?_, ?_⟩) (by assumption) ?_
  rotate_left 2
  focus (simp only [List.getElem?_toArray, List.getElem?_cons_succ, List.getElem?_cons_zero]; rfl)
  focus exact fun _ _ _ h => h
  focus rfl
  focus (intro W hS; (try dsimp only at hS); obtain ⟨⟨k0, k1, k2, k3, k4, k5, k6⟩, l0, l1, l2, l3, l4, l5, l6⟩ := And.intro (clk_cells hS.1) (clk_cells hS.2); go_simp; (try with_reducible rfl))
  try simp only [Act.put]
  try simp only [List.setIfInBounds_toArray]
  try simp only [List.set_cons_succ]
  try simp only [List.set_cons_zero]
  refine wpAnyH_take (i := 18) (oi := ?_) (v := ?_) ?_ (by kernel_rfl) (by kernel_rfl) (by kernel_rfl) ?_ (Or.inl ⟨?_, ?_⟩) (by assumption) ?_
  rotate_left 2
  focus (simp only [List.getElem?_toArray, List.getElem?_cons_succ, List.getElem?_cons_zero]; rfl)
  focus exact fun _ _ _ h => h
  focus rfl
  focus (intro W hS; (try dsimp only at hS); obtain ⟨⟨k0, k1, k2, k3, k4, k5, k6⟩, l0, l1, l2, l3, l4, l5, l6⟩ := And.intro (clk_cells hS.1) (clk_cells hS.2); go_simp; (try with_reducible rfl))
  try simp only [Act.put]
  try simp only [List.setIfInBounds_toArray]
  try simp only [List.set_cons_succ]
  try simp only [List.set_cons_zero]
  refine wpAnyH_take (i := 19) (oi := ?_) (v := ?_) ?_ (by kernel_rfl) (by kernel_rfl) (by kernel_rfl) ?_ (Or.inl ⟨?_, ?_⟩) (by assumption) ?_
  rotate_left 2
  focus (simp only [List.getElem?_toArray, List.getElem?_cons_succ, List.getElem?_cons_zero]; rfl)
  focus exact fun _ _ _ h => h
  focus rfl
  focus (intro W hS; (try dsimp only at hS); obtain ⟨⟨k0, k1, k2, k3, k4, k5, k6⟩, l0, l1, l2, l3, l4, l5, l6⟩ := And.intro (clk_cells hS.1) (clk_cells hS.2); go_simp; (try with_reducible rfl))
  try simp only [Act.put]
  try simp only [List.setIfInBounds_toArray]
  try simp only [List.set_cons_succ]
  try simp only [List.set_cons_zero]
  refine wpAnyH_take (i := 20) (oi := ?_) (v := ?_) ?_ (by kernel_rfl) (by kernel_rfl) (by kernel_rfl) ?_ (Or.inl ⟨?_, ?_⟩) (by assumption) ?_
  rotate_left 2
  focus (simp only [List.getElem?_toArray, List.getElem?_cons_succ, List.getElem?_cons_zero]; rfl)
  focus exact fun _ _ _ h => h
  focus rfl
  focus (intro W hS; (try dsimp only at hS); obtain ⟨⟨k0, k1, k2, k3, k4, k5, k6⟩, l0, l1, l2, l3, l4, l5, l6⟩ := And.intro (clk_cells hS.1) (clk_cells hS.2); go_simp; (try with_reducible rfl))
  try simp only [Act.put]
  try simp only [List.setIfInBounds_toArray]
  try simp only [List.set_cons_succ]
  try simp only [List.set_cons_zero]
  refine wpAnyH_ready (rs := [14]) (by kernel_rfl) (by simp) ?_
  refine AllReadyH.cons (o := ?_) ?_ (fun K hK => ?_) AllReadyH.nil
  rotate_left
  focus (simp only [List.getElem?_toArray, List.getElem?_cons_succ, List.getElem?_cons_zero]; rfl)
  rw [if_pos (by rfl)]
  go_simp
  with_reducible refine (H5.out _ (HM.on p0.bel) (HP.on p0.bel)).mono ?_
  rintro e u1 ⟨rfl, hv1⟩
  have p1 := p0.below hv1
  have r1 := r0.below hv1
  have hrow1 := And.intro p1.row r1.row
  go_wp2_with fail
  refine hK.out _ _ hrow1 (fun hHeld => ?_)
  clear hK K
  try simp only [Act.put]
  try simp only [List.setIfInBounds_toArray]
  try simp only [List.set_cons_succ]
  try simp only [List.set_cons_zero]
  refine wpAnyH_ready (rs := [16]) (by kernel_rfl) (by simp) ?_
  refine AllReadyH.cons (o := ?_) ?_ (fun K hK => ?_) AllReadyH.nil
  rotate_left
  focus (simp only [List.getElem?_toArray, List.getElem?_cons_succ, List.getElem?_cons_zero]; rfl)
  rw [if_pos (by rfl)]
  go_simp
  with_reducible refine (H6.out _ (HM.on p1.bel) (HP.on p1.bel)).mono ?_
  rintro e u2 ⟨rfl, hv2⟩
  have p2 := p1.below hv2
  have r2 := r1.below hv2
  have hrow2 := And.intro p2.row r2.row
  go_wp2_with fail
  refine hK.out _ _ hrow2 (fun hHeld => ?_)
  clear hK K
  try simp only [Act.put]
  try simp only [List.setIfInBounds_toArray]
  try simp only [List.set_cons_succ]
  try simp only [List.set_cons_zero]
  refine wpAnyH_take (i := 17) (oi := ?_) (v := ?_) ?_ (by kernel_rfl) (by kernel_rfl) (by kernel_rfl) ?_ (Or.inl ⟨?_, ?_⟩) (by assumption) ?_
  rotate_left 2
  focus (simp only [List.getElem?_toArray, List.getElem?_cons_succ, List.getElem?_cons_zero]; rfl)
  focus exact fun _ _ _ h => h
  focus rfl
  focus (intro W hS; (try dsimp only at hS); obtain ⟨⟨k0, k1, k2, k3, k4, k5, k6⟩, l0, l1, l2, l3, l4, l5, l6⟩ := And.intro (clk_cells hS.1) (clk_cells hS.2); go_simp; (try with_reducible rfl))
  try simp only [Act.put]
  try simp only [List.setIfInBounds_toArray]
  try simp only [List.set_cons_succ]
  try simp only [List.set_cons_zero]
  refine wpAnyH_take (i := 21) (oi := ?_) (v := ?_) ?_ (by kernel_rfl) (by kernel_rfl) (by kernel_rfl) ?_ (Or.inl ⟨?_, ?_⟩) (by assumption) ?_
  rotate_left 2
  focus (simp only [List.getElem?_toArray, List.getElem?_cons_succ, List.getElem?_cons_zero]; rfl)
  focus exact fun _ _ _ h => h
  focus rfl
  focus (intro W hS; (try dsimp only at hS); obtain ⟨⟨k0, k1, k2, k3, k4, k5, k6⟩, l0, l1, l2, l3, l4, l5, l6⟩ := And.intro (clk_cells hS.1) (clk_cells hS.2); go_simp; (try with_reducible rfl))
  try simp only [Act.put]
  try simp only [List.setIfInBounds_toArray]
  try simp only [List.set_cons_succ]
  try simp only [List.set_cons_zero]
  refine wpAnyH_take (i := 22) (oi := ?_) (v := ?_) ?_ (by kernel_rfl) (by kernel_rfl) (by kernel_rfl) ?_ (Or.inl ⟨?_, ?_⟩) (by assumption) ?_
  rotate_left 2
  focus (simp only [List.getElem?_toArray, List.getElem?_cons_succ, List.getElem?_cons_zero]; rfl)
  focus exact fun _ _ _ h => h
  focus rfl
  focus (intro W hS; (try dsimp only at hS); obtain ⟨⟨k0, k1, k2, k3, k4, k5, k6⟩, l0, l1, l2, l3, l4, l5, l6⟩ := And.intro (clk_cells hS.1) (clk_cells hS.2); go_simp; (try with_reducible rfl))
  try simp only [Act.put]
  try simp only [List.setIfInBounds_toArray]
  try simp only [List.set_cons_succ]
  try simp only [List.set_cons_zero]
  refine wpAnyH_take (i := 23) (oi := ?_) (v := ?_) ?_ (by kernel_rfl) (by kernel_rfl) (by kernel_rfl) ?_ (Or.inl ⟨?_, ?_⟩) (by assumption) ?_
  rotate_left 2
  focus (simp only [List.getElem?_toArray, List.getElem?_cons_succ, List.getElem?_cons_zero]; rfl)
  focus exact fun _ _ _ h => h
  focus rfl
  focus (intro W hS; (try dsimp only at hS); obtain ⟨⟨k0, k1, k2, k3, k4, k5, k6⟩, l0, l1, l2, l3, l4, l5, l6⟩ := And.intro (clk_cells hS.1) (clk_cells hS.2); go_simp; (try with_reducible rfl))
  try simp only [Act.put]
  try simp only [List.setIfInBounds_toArray]
  try simp only [List.set_cons_succ]
  try simp only [List.set_cons_zero]
  refine wpAnyH_take (i := 24) (oi := ?_) (v := ?_) ?_ (by kernel_rfl) (by kernel_rfl) (by kernel_rfl) ?_ (Or.inl ⟨?_, ?_⟩) (by assumption) ?_
  rotate_left 2
  focus (simp only [List.getElem?_toArray, List.getElem?_cons_succ, List.getElem?_cons_zero]; rfl)
  focus exact fun _ _ _ h => h
  focus rfl
  focus (intro W hS; (try dsimp only at hS); obtain ⟨⟨k0, k1, k2, k3, k4, k5, k6⟩, l0, l1, l2, l3, l4, l5, l6⟩ := And.intro (clk_cells hS.1) (clk_cells hS.2); go_simp; (try with_reducible rfl))
  try simp only [Act.put]
  try simp only [List.setIfInBounds_toArray]
  try simp only [List.set_cons_succ]
  try simp only [List.set_cons_zero]
  refine wpAnyH_ready (rs := [25]) (by kernel_rfl) (by simp) ?_
  refine AllReadyH.cons (o := ?_) ?_ (fun K hK => ?_) AllReadyH.nil
  rotate_left
  focus (simp only [List.getElem?_toArray, List.getElem?_cons_succ, List.getElem?_cons_zero]; rfl)
  rw [if_pos (by rfl)]
  go_simp
  with_reducible refine (H5.out _ (HM.on p2.bel) (HP.on p2.bel)).mono ?_
  rintro e u3 ⟨rfl, hv3⟩
  have p3 := p2.below hv3
  have r3 := r2.below hv3
  have hrow3 := And.intro p3.row r3.row
  go_wp2_with fail
  refine hK.out _ _ hrow3 (fun hHeld => ?_)
  clear hK K
  try simp only [Act.put]
  try simp only [List.setIfInBounds_toArray]
  try simp only [List.set_cons_succ]
  try simp only [List.set_cons_zero]
  refine wpAnyH_take (i := 26) (oi := ?_) (v := ?_) ?_ (by kernel_rfl) (by kernel_rfl) (by kernel_rfl) ?_ (Or.inl ⟨?_, ?_⟩) (by assumption) ?_
  rotate_left 2
  focus (simp only [List.getElem?_toArray, List.getElem?_cons_succ, List.getElem?_cons_zero]; rfl)
  focus exact fun _ _ _ h => h
  focus rfl
  focus (intro W hS; (try dsimp only at hS); obtain ⟨⟨k0, k1, k2, k3, k4, k5, k6⟩, l0, l1, l2, l3, l4, l5, l6⟩ := And.intro (clk_cells hS.1) (clk_cells hS.2); go_simp; (try with_reducible rfl))
  try simp only [Act.put]
  try simp only [List.setIfInBounds_toArray]
  try simp only [List.set_cons_succ]
  try simp only [List.set_cons_zero]
  refine wpAnyH_take (i := 27) (oi := ?_) (v := ?_) ?_ (by kernel_rfl) (by kernel_rfl) (by kernel_rfl) ?_ (Or.inl ⟨?_, ?_⟩) (by assumption) ?_
  rotate_left 2
  focus (simp only [List.getElem?_toArray, List.getElem?_cons_succ, List.getElem?_cons_zero]; rfl)
  focus exact fun _ _ _ h => h
  focus rfl
  focus (intro W hS; (try dsimp only at hS); obtain ⟨⟨k0, k1, k2, k3, k4, k5, k6⟩, l0, l1, l2, l3, l4, l5, l6⟩ := And.intro (clk_cells hS.1) (clk_cells hS.2); go_simp; (try with_reducible rfl))
  try simp only [Act.put]
  try simp only [List.setIfInBounds_toArray]
  try simp only [List.set_cons_succ]
  try simp only [List.set_cons_zero]
  refine wpAnyH_take (i := 28) (oi := ?_) (v := ?_) ?_ (by kernel_rfl) (by kernel_rfl) (by kernel_rfl) ?_ (Or.inl ⟨?_, ?_⟩) (by assumption) ?_
  rotate_left 2
  focus (simp only [List.getElem?_toArray, List.getElem?_cons_succ, List.getElem?_cons_zero]; rfl)
  focus exact fun _ _ _ h => h
  focus rfl
  focus (intro W hS; (try dsimp only at hS); obtain ⟨⟨k0, k1, k2, k3, k4, k5, k6⟩, l0, l1, l2, l3, l4, l5, l6⟩ := And.intro (clk_cells hS.1) (clk_cells hS.2); go_simp; (try with_reducible rfl))
  try simp only [Act.put]
  try simp only [List.setIfInBounds_toArray]
  try simp only [List.set_cons_succ]
  try simp only [List.set_cons_zero]
  refine wpAnyH_take (i := 29) (oi := ?_) (v := ?_) ?_ (by kernel_rfl) (by kernel_rfl) (by kernel_rfl) ?_ (Or.inl ⟨?_, ?_⟩) (by assumption) ?_
  rotate_left 2
  focus (simp only [List.getElem?_toArray, List.getElem?_cons_succ, List.getElem?_cons_zero]; rfl)
  focus exact fun _ _ _ h => h
  focus rfl
  focus (intro W hS; (try dsimp only at hS); obtain ⟨⟨k0, k1, k2, k3, k4, k5, k6⟩, l0, l1, l2, l3, l4, l5, l6⟩ := And.intro (clk_cells hS.1) (clk_cells hS.2); go_simp; (try with_reducible rfl))
  try simp only [Act.put]
  try simp only [List.setIfInBounds_toArray]
  try simp only [List.set_cons_succ]
  try simp only [List.set_cons_zero]
  refine wpAnyH_take (i := 30) (oi := ?_) (v := ?_) ?_ (by kernel_rfl) (by kernel_rfl) (by kernel_rfl) ?_ (Or.inl ⟨?_, ?_⟩) (by assumption) ?_
  rotate_left 2
  focus (simp only [List.getElem?_toArray, List.getElem?_cons_succ, List.getElem?_cons_zero]; rfl)
  focus exact fun _ _ _ h => h
  focus rfl
  focus (intro W hS; (try dsimp only at hS); obtain ⟨⟨k0, k1, k2, k3, k4, k5, k6⟩, l0, l1, l2, l3, l4, l5, l6⟩ := And.intro (clk_cells hS.1) (clk_cells hS.2); go_simp; (try with_reducible rfl))
  try simp only [Act.put]
  try simp only [List.setIfInBounds_toArray]
  try simp only [List.set_cons_succ]
  try simp only [List.set_cons_zero]
  refine wpAnyH_take (i := 31) (oi := ?_) (v := ?_) ?_ (by kernel_rfl) (by kernel_rfl) (by kernel_rfl) ?_ (Or.inl ⟨?_, ?_⟩) (by assumption) ?_
  rotate_left 2
  focus (simp only [List.getElem?_toArray, List.getElem?_cons_succ, List.getElem?_cons_zero]; rfl)
  focus exact fun _ _ _ h => h
  focus rfl
  focus (intro W hS; (try dsimp only at hS); obtain ⟨⟨k0, k1, k2, k3, k4, k5, k6⟩, l0, l1, l2, l3, l4, l5, l6⟩ := And.intro (clk_cells hS.1) (clk_cells hS.2); go_simp; (try with_reducible rfl))
  try simp only [Act.put]
  try simp only [List.setIfInBounds_toArray]
  try simp only [List.set_cons_succ]
  try simp only [List.set_cons_zero]
  refine wpAnyH_take (i := 32) (oi := ?_) (v := ?_) ?_ (by kernel_rfl) (by kernel_rfl) (by kernel_rfl) ?_ (Or.inl ⟨?_, ?_⟩) (by assumption) ?_
  rotate_left 2
  focus (simp only [List.getElem?_toArray, List.getElem?_cons_succ, List.getElem?_cons_zero]; rfl)
  focus exact fun _ _ _ h => h
  focus rfl
  focus (intro W hS; (try dsimp only at hS); obtain ⟨⟨k0, k1, k2, k3, k4, k5, k6⟩, l0, l1, l2, l3, l4, l5, l6⟩ := And.intro (clk_cells hS.1) (clk_cells hS.2); go_simp; (try with_reducible rfl))
  try simp only [Act.put]
  try simp only [List.setIfInBounds_toArray]
  try simp only [List.set_cons_succ]
  try simp only [List.set_cons_zero]
  refine wpAnyH_take (i := 33) (oi := ?_) (v := ?_) ?_ (by kernel_rfl) (by kernel_rfl) (by kernel_rfl) ?_ (Or.inl ⟨?_, ?_⟩) (by assumption) ?_
  rotate_left 2
  focus (simp only [List.getElem?_toArray, List.getElem?_cons_succ, List.getElem?_cons_zero]; rfl)
  focus exact fun _ _ _ h => h
  focus rfl
  focus (intro W hS; (try dsimp only at hS); obtain ⟨⟨k0, k1, k2, k3, k4, k5, k6⟩, l0, l1, l2, l3, l4, l5, l6⟩ := And.intro (clk_cells hS.1) (clk_cells hS.2); go_simp; (try with_reducible rfl))
  try simp only [Act.put]
  try simp only [List.setIfInBounds_toArray]
  try simp only [List.set_cons_succ]
  try simp only [List.set_cons_zero]
  refine wpAnyH_take (i := 34) (oi := ?_) (v := ?_) ?_ (by kernel_rfl) (by kernel_rfl) (by kernel_rfl) ?_ (Or.inl ⟨?_, ?_⟩) (by assumption) ?_
  rotate_left 2
  focus (simp only [List.getElem?_toArray, List.getElem?_cons_succ, List.getElem?_cons_zero]; rfl)
  focus exact fun _ _ _ h => h
  focus rfl
  focus (intro W hS; (try dsimp only at hS); obtain ⟨⟨k0, k1, k2, k3, k4, k5, k6⟩, l0, l1, l2, l3, l4, l5, l6⟩ := And.intro (clk_cells hS.1) (clk_cells hS.2); go_simp; (try with_reducible rfl))
  try simp only [Act.put]
  try simp only [List.setIfInBounds_toArray]
  try simp only [List.set_cons_succ]
  try simp only [List.set_cons_zero]
  refine wpAnyH_take (i := 35) (oi := ?_) (v := ?_) ?_ (by kernel_rfl) (by kernel_rfl) (by kernel_rfl) ?_ (Or.inl ⟨?_, ?_⟩) (by assumption) ?_
  rotate_left 2
  focus (simp only [List.getElem?_toArray, List.getElem?_cons_succ, List.getElem?_cons_zero]; rfl)
  focus exact fun _ _ _ h => h
  focus rfl
  focus (intro W hS; (try dsimp only at hS); obtain ⟨⟨k0, k1, k2, k3, k4, k5, k6⟩, l0, l1, l2, l3, l4, l5, l6⟩ := And.intro (clk_cells hS.1) (clk_cells hS.2); go_simp; (try with_reducible rfl))
  try simp only [Act.put]
  try simp only [List.setIfInBounds_toArray]
  try simp only [List.set_cons_succ]
  try simp only [List.set_cons_zero]
  refine wpAnyH_take (i := 36) (oi := ?_) (v := ?_) ?_ (by kernel_rfl) (by kernel_rfl) (by kernel_rfl) ?_ (Or.inl ⟨?_, ?_⟩) (by assumption) ?_
  rotate_left 2
  focus (simp only [List.getElem?_toArray, List.getElem?_cons_succ, List.getElem?_cons_zero]; rfl)
  focus exact fun _ _ _ h => h
  focus rfl
  focus (intro W hS; (try dsimp only at hS); obtain ⟨⟨k0, k1, k2, k3, k4, k5, k6⟩, l0, l1, l2, l3, l4, l5, l6⟩ := And.intro (clk_cells hS.1) (clk_cells hS.2); go_simp; (try with_reducible rfl))
  try simp only [Act.put]
  try simp only [List.setIfInBounds_toArray]
  try simp only [List.set_cons_succ]
  try simp only [List.set_cons_zero]
  refine wpAnyH_take (i := 37) (oi := ?_) (v := ?_) ?_ (by kernel_rfl) (by kernel_rfl) (by kernel_rfl) ?_ (Or.inl ⟨?_, ?_⟩) (by assumption) ?_
  rotate_left 2
  focus (simp only [List.getElem?_toArray, List.getElem?_cons_succ, List.getElem?_cons_zero]; rfl)
  focus exact fun _ _ _ h => h
  focus rfl
  focus (intro W hS; (try dsimp only at hS); obtain ⟨⟨k0, k1, k2, k3, k4, k5, k6⟩, l0, l1, l2, l3, l4, l5, l6⟩ := And.intro (clk_cells hS.1) (clk_cells hS.2); go_simp; (try with_reducible rfl))
  try simp only [Act.put]
  try simp only [List.setIfInBounds_toArray]
  try simp only [List.set_cons_succ]
  try simp only [List.set_cons_zero]
  refine wpAnyH_done (by kernel_rfl) ?_ _
  clear hlen hless H1 H2 H4 H5 H6 hrow hHeld hrow0 hrow1 hrow2 hrow3 hv0 hv1 hv2 hv3 p0 p1 p2 r0 r1 r2 r3 oa ob
  obtain ⟨c0, c1, c2, c3, c4, c5, c6⟩ := clk_cells p3.row
  by_cases hw0 : which = 0
  · subst hw0
    obtain ⟨X, hX⟩ : ∃ X, wrap64 (x + by_) = X := ⟨_, rfl⟩
    have HX := Lib.hid hX
    have f0 := p3.free 5
    by_cases hb0 : by_ = 0
    · have hX0 : wrap64 x = x := by
        rw [← IntWalk.i64_left, IntKind.wrap_i64]
        have hm := HM1.out
        have hR := Cal.num_range hm.1
        obtain ⟨⟨-, -, e1, e2⟩, e3, e4, e5, e6, e7, e8, e9⟩ := hm
        have e10 := (Cal.long_pos (y := y) (Cal.may_month (y := y) (m := m) (d := d) HM1.out.1)).2
        (try unfold Cal.week at e9)
        omega
      clear hX HX
      subst hb0
      go_wp2_with fail
      have o4 := p3.set5 x
      clear c0 c1 c2 c3 c4 c5 c6 f0 p3
      go_wp2_with fail
      with_reducible refine (H3.out _ (HM.on o4.bel)).mono ?_
      rintro e w6 ⟨rfl, hb⟩
      have o5 := o4.below hb
      go_wp2_with fail
      go_ret
      exact ⟨rfl, o5.bel⟩
    · have hXne : ¬ X = x := by
        intro he
        rw [he] at hX
        rw [← IntWalk.i64_left, IntKind.wrap_i64] at hX
        have hm := HM1.out
        have hR := Cal.num_range hm.1
        obtain ⟨⟨-, -, e1, e2⟩, e3, e4, e5, e6, e7, e8, e9⟩ := hm
        have e10 := (Cal.long_pos (y := y) (Cal.may_month (y := y) (m := m) (d := d) HM1.out.1)).2
        (try unfold Cal.week at e9)
        omega
      by_cases hmx : Stm.may y m d h i X k
      · have HJ : Hid (∀ w, Mon w → Calls Tryd.prog 12 #[.agg #[.int .i64 y, .int .i64 m, .int .i64 d, .int .i64 h, .int .i64 i, .int .i64 X, .int .i64 k]] w fun e w' => e = .returned (.tuple #[.int .i64 (Stm.num y m d h i X), .int .i64 0]) ∧ Below w.heap.size w w') := fun w hw => join_in y m d h i X k w hw hmx
        have hNS : (Stm.num y m d h i X != S) = true := by
          rw [bne_iff_ne, ← HN1.out]
          exact Stm.other HM1.out hmx (fun hh => hXne (by obtain ⟨a1, a2, a3, a4⟩ := hh; first | exact a1.symm | exact a2.symm | exact a3.symm | exact a4.symm))
        generalize Stm.num y m d h i X = N at *
        clear hmx hXne
        go_wp2_with fail
        have o4 := p3.set5 X
        clear c0 c1 c2 c3 c4 c5 c6 f0 p3
        go_wp2_with fail
        with_reducible refine (HJ.out _ (HM.on o4.bel)).mono ?_
        rintro e w6 ⟨rfl, hb⟩
        have o5 := o4.below hb
        go_wp2_with fail
        go_ret
        exact ⟨rfl, o5.bel⟩
      · have HJ : Hid (∀ w, Mon w → Calls Tryd.prog 12 #[.agg #[.int .i64 y, .int .i64 m, .int .i64 d, .int .i64 h, .int .i64 i, .int .i64 X, .int .i64 k]] w fun e w' => e = .returned (.tuple #[.int .i64 0, .int .i64 2]) ∧ Below w.heap.size w w') := fun w hw => by
          have := join_any y m d h i X k w hw
          rw [joinOf_out hmx] at this
          exact this
        clear hmx hXne
        go_wp2_with fail
        have o4 := p3.set5 X
        clear c0 c1 c2 c3 c4 c5 c6 f0 p3
        go_wp2_with fail
        with_reducible refine (HJ.out _ (HM.on o4.bel)).mono ?_
        rintro e w6 ⟨rfl, hb⟩
        have o5 := o4.below hb
        go_wp2_with fail
        go_ret
        exact ⟨rfl, o5.bel⟩
  by_cases hw1 : which = 1
  · subst hw1
    obtain ⟨X, hX⟩ : ∃ X, wrap64 (i + by_) = X := ⟨_, rfl⟩
    have HX := Lib.hid hX
    have f0 := p3.free 4
    by_cases hb0 : by_ = 0
    · have hX0 : wrap64 i = i := by
        rw [← IntWalk.i64_left, IntKind.wrap_i64]
        have hm := HM1.out
        have hR := Cal.num_range hm.1
        obtain ⟨⟨-, -, e1, e2⟩, e3, e4, e5, e6, e7, e8, e9⟩ := hm
        have e10 := (Cal.long_pos (y := y) (Cal.may_month (y := y) (m := m) (d := d) HM1.out.1)).2
        (try unfold Cal.week at e9)
        omega
      clear hX HX
      subst hb0
      go_wp2_with fail
      have o4 := p3.set4 i
      clear c0 c1 c2 c3 c4 c5 c6 f0 p3
      go_wp2_with fail
      with_reducible refine (H3.out _ (HM.on o4.bel)).mono ?_
      rintro e w6 ⟨rfl, hb⟩
      have o5 := o4.below hb
      go_wp2_with fail
      go_ret
      exact ⟨rfl, o5.bel⟩
    · have hXne : ¬ X = i := by
        intro he
        rw [he] at hX
        rw [← IntWalk.i64_left, IntKind.wrap_i64] at hX
        have hm := HM1.out
        have hR := Cal.num_range hm.1
        obtain ⟨⟨-, -, e1, e2⟩, e3, e4, e5, e6, e7, e8, e9⟩ := hm
        have e10 := (Cal.long_pos (y := y) (Cal.may_month (y := y) (m := m) (d := d) HM1.out.1)).2
        (try unfold Cal.week at e9)
        omega
      by_cases hmx : Stm.may y m d h X x k
      · have HJ : Hid (∀ w, Mon w → Calls Tryd.prog 12 #[.agg #[.int .i64 y, .int .i64 m, .int .i64 d, .int .i64 h, .int .i64 X, .int .i64 x, .int .i64 k]] w fun e w' => e = .returned (.tuple #[.int .i64 (Stm.num y m d h X x), .int .i64 0]) ∧ Below w.heap.size w w') := fun w hw => join_in y m d h X x k w hw hmx
        have hNS : (Stm.num y m d h X x != S) = true := by
          rw [bne_iff_ne, ← HN1.out]
          exact Stm.other HM1.out hmx (fun hh => hXne (by obtain ⟨a1, a2, a3, a4⟩ := hh; first | exact a1.symm | exact a2.symm | exact a3.symm | exact a4.symm))
        generalize Stm.num y m d h X x = N at *
        clear hmx hXne
        go_wp2_with fail
        have o4 := p3.set4 X
        clear c0 c1 c2 c3 c4 c5 c6 f0 p3
        go_wp2_with fail
        with_reducible refine (HJ.out _ (HM.on o4.bel)).mono ?_
        rintro e w6 ⟨rfl, hb⟩
        have o5 := o4.below hb
        go_wp2_with fail
        go_ret
        exact ⟨rfl, o5.bel⟩
      · have HJ : Hid (∀ w, Mon w → Calls Tryd.prog 12 #[.agg #[.int .i64 y, .int .i64 m, .int .i64 d, .int .i64 h, .int .i64 X, .int .i64 x, .int .i64 k]] w fun e w' => e = .returned (.tuple #[.int .i64 0, .int .i64 2]) ∧ Below w.heap.size w w') := fun w hw => by
          have := join_any y m d h X x k w hw
          rw [joinOf_out hmx] at this
          exact this
        clear hmx hXne
        go_wp2_with fail
        have o4 := p3.set4 X
        clear c0 c1 c2 c3 c4 c5 c6 f0 p3
        go_wp2_with fail
        with_reducible refine (HJ.out _ (HM.on o4.bel)).mono ?_
        rintro e w6 ⟨rfl, hb⟩
        have o5 := o4.below hb
        go_wp2_with fail
        go_ret
        exact ⟨rfl, o5.bel⟩
  by_cases hw2 : which = 2
  · subst hw2
    obtain ⟨X, hX⟩ : ∃ X, wrap64 (h + by_) = X := ⟨_, rfl⟩
    have HX := Lib.hid hX
    have f0 := p3.free 3
    by_cases hb0 : by_ = 0
    · have hX0 : wrap64 h = h := by
        rw [← IntWalk.i64_left, IntKind.wrap_i64]
        have hm := HM1.out
        have hR := Cal.num_range hm.1
        obtain ⟨⟨-, -, e1, e2⟩, e3, e4, e5, e6, e7, e8, e9⟩ := hm
        have e10 := (Cal.long_pos (y := y) (Cal.may_month (y := y) (m := m) (d := d) HM1.out.1)).2
        (try unfold Cal.week at e9)
        omega
      clear hX HX
      subst hb0
      go_wp2_with fail
      have o4 := p3.set3 h
      clear c0 c1 c2 c3 c4 c5 c6 f0 p3
      go_wp2_with fail
      with_reducible refine (H3.out _ (HM.on o4.bel)).mono ?_
      rintro e w6 ⟨rfl, hb⟩
      have o5 := o4.below hb
      go_wp2_with fail
      go_ret
      exact ⟨rfl, o5.bel⟩
    · have hXne : ¬ X = h := by
        intro he
        rw [he] at hX
        rw [← IntWalk.i64_left, IntKind.wrap_i64] at hX
        have hm := HM1.out
        have hR := Cal.num_range hm.1
        obtain ⟨⟨-, -, e1, e2⟩, e3, e4, e5, e6, e7, e8, e9⟩ := hm
        have e10 := (Cal.long_pos (y := y) (Cal.may_month (y := y) (m := m) (d := d) HM1.out.1)).2
        (try unfold Cal.week at e9)
        omega
      by_cases hmx : Stm.may y m d X i x k
      · have HJ : Hid (∀ w, Mon w → Calls Tryd.prog 12 #[.agg #[.int .i64 y, .int .i64 m, .int .i64 d, .int .i64 X, .int .i64 i, .int .i64 x, .int .i64 k]] w fun e w' => e = .returned (.tuple #[.int .i64 (Stm.num y m d X i x), .int .i64 0]) ∧ Below w.heap.size w w') := fun w hw => join_in y m d X i x k w hw hmx
        have hNS : (Stm.num y m d X i x != S) = true := by
          rw [bne_iff_ne, ← HN1.out]
          exact Stm.other HM1.out hmx (fun hh => hXne (by obtain ⟨a1, a2, a3, a4⟩ := hh; first | exact a1.symm | exact a2.symm | exact a3.symm | exact a4.symm))
        generalize Stm.num y m d X i x = N at *
        clear hmx hXne
        go_wp2_with fail
        have o4 := p3.set3 X
        clear c0 c1 c2 c3 c4 c5 c6 f0 p3
        go_wp2_with fail
        with_reducible refine (HJ.out _ (HM.on o4.bel)).mono ?_
        rintro e w6 ⟨rfl, hb⟩
        have o5 := o4.below hb
        go_wp2_with fail
        go_ret
        exact ⟨rfl, o5.bel⟩
      · have HJ : Hid (∀ w, Mon w → Calls Tryd.prog 12 #[.agg #[.int .i64 y, .int .i64 m, .int .i64 d, .int .i64 X, .int .i64 i, .int .i64 x, .int .i64 k]] w fun e w' => e = .returned (.tuple #[.int .i64 0, .int .i64 2]) ∧ Below w.heap.size w w') := fun w hw => by
          have := join_any y m d X i x k w hw
          rw [joinOf_out hmx] at this
          exact this
        clear hmx hXne
        go_wp2_with fail
        have o4 := p3.set3 X
        clear c0 c1 c2 c3 c4 c5 c6 f0 p3
        go_wp2_with fail
        with_reducible refine (HJ.out _ (HM.on o4.bel)).mono ?_
        rintro e w6 ⟨rfl, hb⟩
        have o5 := o4.below hb
        go_wp2_with fail
        go_ret
        exact ⟨rfl, o5.bel⟩
  by_cases hw3 : which = 3
  · subst hw3
    obtain ⟨X, hX⟩ : ∃ X, wrap64 (k + by_) = X := ⟨_, rfl⟩
    have HX := Lib.hid hX
    have f0 := p3.free 6
    by_cases hb0 : by_ = 0
    · have hX0 : wrap64 k = k := by
        rw [← IntWalk.i64_left, IntKind.wrap_i64]
        have hm := HM1.out
        have hR := Cal.num_range hm.1
        obtain ⟨⟨-, -, e1, e2⟩, e3, e4, e5, e6, e7, e8, e9⟩ := hm
        have e10 := (Cal.long_pos (y := y) (Cal.may_month (y := y) (m := m) (d := d) HM1.out.1)).2
        (try unfold Cal.week at e9)
        omega
      clear hX HX
      subst hb0
      go_wp2_with fail
      have o4 := p3.set6 k
      clear c0 c1 c2 c3 c4 c5 c6 f0 p3
      go_wp2_with fail
      with_reducible refine (H3.out _ (HM.on o4.bel)).mono ?_
      rintro e w6 ⟨rfl, hb⟩
      have o5 := o4.below hb
      go_wp2_with fail
      go_ret
      exact ⟨rfl, o5.bel⟩
    · have hXne : ¬ X = k := by
        intro he
        rw [he] at hX
        rw [← IntWalk.i64_left, IntKind.wrap_i64] at hX
        have hm := HM1.out
        have hR := Cal.num_range hm.1
        obtain ⟨⟨-, -, e1, e2⟩, e3, e4, e5, e6, e7, e8, e9⟩ := hm
        have e10 := (Cal.long_pos (y := y) (Cal.may_month (y := y) (m := m) (d := d) HM1.out.1)).2
        (try unfold Cal.week at e9)
        omega
      · have hmx : ¬ Stm.may y m d h i x X := fun hh => hXne (hh.2.2.2.2.2.2.2.trans HM1.out.2.2.2.2.2.2.2.symm)
        have HJ : Hid (∀ w, Mon w → Calls Tryd.prog 12 #[.agg #[.int .i64 y, .int .i64 m, .int .i64 d, .int .i64 h, .int .i64 i, .int .i64 x, .int .i64 X]] w fun e w' => e = .returned (.tuple #[.int .i64 0, .int .i64 2]) ∧ Below w.heap.size w w') := fun w hw => by
          have := join_any y m d h i x X w hw
          rw [joinOf_out hmx] at this
          exact this
        clear hmx hXne
        go_wp2_with fail
        have o4 := p3.set6 X
        clear c0 c1 c2 c3 c4 c5 c6 f0 p3
        go_wp2_with fail
        with_reducible refine (HJ.out _ (HM.on o4.bel)).mono ?_
        rintro e w6 ⟨rfl, hb⟩
        have o5 := o4.below hb
        go_wp2_with fail
        go_ret
        exact ⟨rfl, o5.bel⟩
  by_cases hw4 : which = 4
  · subst hw4
    obtain ⟨X, hX⟩ : ∃ X, wrap64 (d + by_) = X := ⟨_, rfl⟩
    have HX := Lib.hid hX
    have f0 := p3.free 2
    by_cases hb0 : by_ = 0
    · have hX0 : wrap64 d = d := by
        rw [← IntWalk.i64_left, IntKind.wrap_i64]
        have hm := HM1.out
        have hR := Cal.num_range hm.1
        obtain ⟨⟨-, -, e1, e2⟩, e3, e4, e5, e6, e7, e8, e9⟩ := hm
        have e10 := (Cal.long_pos (y := y) (Cal.may_month (y := y) (m := m) (d := d) HM1.out.1)).2
        (try unfold Cal.week at e9)
        omega
      clear hX HX
      subst hb0
      go_wp2_with fail
      have o4 := p3.set2 d
      clear c0 c1 c2 c3 c4 c5 c6 f0 p3
      go_wp2_with fail
      with_reducible refine (H3.out _ (HM.on o4.bel)).mono ?_
      rintro e w6 ⟨rfl, hb⟩
      have o5 := o4.below hb
      go_wp2_with fail
      go_ret
      exact ⟨rfl, o5.bel⟩
    · have hXne : ¬ X = d := by
        intro he
        rw [he] at hX
        rw [← IntWalk.i64_left, IntKind.wrap_i64] at hX
        have hm := HM1.out
        have hR := Cal.num_range hm.1
        obtain ⟨⟨-, -, e1, e2⟩, e3, e4, e5, e6, e7, e8, e9⟩ := hm
        have e10 := (Cal.long_pos (y := y) (Cal.may_month (y := y) (m := m) (d := d) HM1.out.1)).2
        (try unfold Cal.week at e9)
        omega
      by_cases hmx : Stm.may y m X h i x k
      · have HJ : Hid (∀ w, Mon w → Calls Tryd.prog 12 #[.agg #[.int .i64 y, .int .i64 m, .int .i64 X, .int .i64 h, .int .i64 i, .int .i64 x, .int .i64 k]] w fun e w' => e = .returned (.tuple #[.int .i64 (Stm.num y m X h i x), .int .i64 0]) ∧ Below w.heap.size w w') := fun w hw => join_in y m X h i x k w hw hmx
        have hNS : (Stm.num y m X h i x != S) = true := by
          rw [bne_iff_ne, ← HN1.out]
          exact Stm.other HM1.out hmx (fun hh => hXne (by obtain ⟨a1, a2, a3, a4⟩ := hh; first | exact a1.symm | exact a2.symm | exact a3.symm | exact a4.symm))
        generalize Stm.num y m X h i x = N at *
        clear hmx hXne
        go_wp2_with fail
        have o4 := p3.set2 X
        clear c0 c1 c2 c3 c4 c5 c6 f0 p3
        go_wp2_with fail
        with_reducible refine (HJ.out _ (HM.on o4.bel)).mono ?_
        rintro e w6 ⟨rfl, hb⟩
        have o5 := o4.below hb
        go_wp2_with fail
        go_ret
        exact ⟨rfl, o5.bel⟩
      · have HJ : Hid (∀ w, Mon w → Calls Tryd.prog 12 #[.agg #[.int .i64 y, .int .i64 m, .int .i64 X, .int .i64 h, .int .i64 i, .int .i64 x, .int .i64 k]] w fun e w' => e = .returned (.tuple #[.int .i64 0, .int .i64 2]) ∧ Below w.heap.size w w') := fun w hw => by
          have := join_any y m X h i x k w hw
          rw [joinOf_out hmx] at this
          exact this
        clear hmx hXne
        go_wp2_with fail
        have o4 := p3.set2 X
        clear c0 c1 c2 c3 c4 c5 c6 f0 p3
        go_wp2_with fail
        with_reducible refine (HJ.out _ (HM.on o4.bel)).mono ?_
        rintro e w6 ⟨rfl, hb⟩
        have o5 := o4.below hb
        go_wp2_with fail
        go_ret
        exact ⟨rfl, o5.bel⟩
  have hwo : which < 0 ∨ (¬ which < 0 ∧ 4 < which) := by omega
  go_wp2_with fail
  with_reducible refine (H3.out _ (HM.on p3.bel)).mono ?_
  rintro e w6 ⟨rfl, hb⟩
  have o5 := p3.below hb
  clear c0 c1 c2 c3 c4 c5 c6 p3
  rcases hwo with hwo | ⟨hwn, hwo⟩
  · have gw : decide (which < 0) = true := by simp; omega
    go_wp2_with fail
    go_ret
    exact ⟨rfl, o5.bel⟩
  · have gw : decide (which < 0) = false := by simp; omega
    have gx : decide (4 < which) = true := by simp; omega
    go_wp2_with fail
    go_ret
    exact ⟨rfl, o5.bel⟩

theorem stampOrder_any (S T which by_ : Int) (w : World) (hw : Mon w) (hp : Pow w) (hby : -9223372036854775808 ≤ by_ ∧ by_ ≤ 9223372036854775807) :
    Calls Tryd.prog 5 #[.int .i64 S, .int .i64 T, .int .i64 which, .int .i64 by_] w fun e w' => e = .returned (.bool true) ∧ Below w.heap.size w w' := by
  by_cases s0 : S < 0
  · by_cases t0 : T < 0
    · exact stampOrder_low_low S T which by_ w hw hp s0 t0
    · by_cases t1 : T < 13569465600
      · exact stampOrder_low_in S T which by_ w hw hp s0 (by omega) t1
      · exact stampOrder_low_high S T which by_ w hw hp s0 (by omega)
  · by_cases s1 : S < 13569465600
    · by_cases t0 : T < 0
      · exact stampOrder_in_low S T which by_ w hw hp (by omega) s1 t0
      · by_cases t1 : T < 13569465600
        · obtain ⟨y, m, d, h, i, x, k, hm, hn⟩ := Stm.onto S (by omega) s1
          by_cases hST : S = T
          · subst hST
            exact stampOrder_same y m d h i x k S which by_ w hw hp hm hn hby
          · obtain ⟨y', m', d', h', i', x', k', hm2, hn2⟩ := Stm.onto T (by omega) t1
            exact stampOrder_diff y m d h i x k y' m' d' h' i' x' k' S T which by_ w hw hp hm hn hm2 hn2 hST hby
        · exact stampOrder_in_high S T which by_ w hw hp (by omega) s1 (by omega)
    · by_cases t0 : T < 0
      · exact stampOrder_high_low S T which by_ w hw hp (by omega) t0
      · by_cases t1 : T < 13569465600
        · exact stampOrder_high_in S T which by_ w hw hp (by omega) (by omega) t1
        · exact stampOrder_high_high S T which by_ w hw hp (by omega) (by omega)
end Go.Proofs.YtpafjdbckbhcoaaDoor
