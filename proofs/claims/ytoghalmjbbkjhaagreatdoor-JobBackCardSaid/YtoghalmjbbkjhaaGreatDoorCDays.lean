/- civil.Days and the reference's, by their contracts. -/
import Derived.Test.YtoghalmjbbkjhaaGreatDoorCMay
namespace Go.Proofs.YtoghalmjbbkjhaaGreatDoor.Civ
open Go.RowKit

/-- a boxed date of the call's own -/
structure Box (w : World) (B : Nat) (y m d : Int) (W : World) : Prop where
  b : Below B w W
  s : B < W.heap.size
  c0 : W.cell? ⟨B, 0, none⟩ = some (.int .i64 y)
  c1 : W.cell? ⟨B, 1, none⟩ = some (.int .i64 m)
  c2 : W.cell? ⟨B, 2, none⟩ = some (.int .i64 d)
theorem Box.new (w : World) (y m d : Int) : Box w w.heap.size y m d (w.alloc (.cells #[.int .i64 y, .int .i64 m, .int .i64 d] 47)) :=
  ⟨(Below.refl _ _).alloc (Nat.le_refl _) _, by simp, by simp, by simp, by simp⟩
theorem Box.below {w : World} {B : Nat} {y m d : Int} {W W' : World} (h : Box w B y m d W) (hb : Below W.heap.size W W') : Box w B y m d W' :=
  ⟨h.b.trans (hb.mono (Nat.le_of_lt h.s)), Nat.lt_of_lt_of_le h.s hb.size, (hb.cell h.s).trans h.c0, (hb.cell h.s).trans h.c1, (hb.cell h.s).trans h.c2⟩
theorem Box.drew {w : World} {B : Nat} {y m d : Int} {W : World} (h : Box w B y m d W) : Box w B y m d W.drew := h.below (Below.refl _ _).drew

/-- a date's day, as it is told -/
def dayOf (y m d : Int) : Value := if Cal.may y m d then .tuple #[.int .i64 (Cal.num y m d), .int .i64 0] else .tuple #[.int .i64 0, .int .i64 2]
theorem dbm_range (y : Int) (k : Nat) (hk : k ≤ 12) : 0 ≤ Cal.dbm y k ∧ Cal.dbm y k ≤ 366 := by
  have h1 := Cal.dbm_pos y k hk
  have h2 := Cal.dbm_mono y hk (Nat.le_refl 12)
  have h3 := Cal.ylen_or y
  rw [Cal.dbm_12] at h2
  omega
theorem dby_range (k : Nat) (hk : k ≤ 430) : 0 ≤ Cal.dby k ∧ Cal.dby k ≤ 157054 := by
  have h1 := Cal.dby_pos k
  have h2 := Cal.dby_mono hk
  rw [Cal.dby_430] at h2
  omega

set_option maxRecDepth 100000 in
set_option maxHeartbeats 1000000 in
theorem days_in (y m d : Int) (w : World) (hw : Mon w) (hmay : Cal.may y m d) :
    Calls Tryz.prog 98 #[.agg #[.int .i64 y, .int .i64 m, .int .i64 d]] w fun e w' => e = .returned (.tuple #[.int .i64 (Cal.num y m d), .int .i64 0]) ∧ Below w.heap.size w w' := by
  have hm12 := Cal.may_month hmay
  obtain ⟨hy0, hy1, hd0, hd1⟩ := id hmay
  have hl := (Cal.long_pos (y := y) hm12).2
  have hd31 : d ≤ 31 := by omega
  clear hl hd1
  have HY := Lib.hid hmay
  obtain ⟨D, hD⟩ : ∃ D, D = Cal.dby (y - 1970).toNat := ⟨_, rfl⟩
  have hDr := dby_range (y - 1970).toNat (by omega)
  rw [← hD] at hDr
  have hbox := Box.new w y m d
  have HN : Hid (Cal.num y m d = D + Cal.dbm y (m - 1).toNat + (d - 1)) := by
    show _ = _
    rw [hD]
    rfl
  have HF : Hid (∀ w, Calls Tryz.prog 61 #[.int .i64 y] w fun e w' => e = .returned (.int .i64 D) ∧ Below w.heap.size w w') := by
    show ∀ w, _
    rw [hD]
    exact fun w => first_any y w (by omega)
  have HM : Hid (∀ W, Below w.heap.size w W → Mon W) := fun W h => hw.below h hw.1
  clear hw hD hmay
  go_enter Tryz.func98, Tryz.ntmps98
  go_wp2_with fail
  generalize w.alloc (.cells #[.int .i64 y, .int .i64 m, .int .i64 d] 47) = W at *
  generalize hB : w.heap.size = B at *
  obtain ⟨c0, c1, c2⟩ : _ ∧ _ ∧ _ := ⟨hbox.c0, hbox.c1, hbox.c2⟩
  go_wp2_with fail
  with_reducible refine (may_any y m d _ (HM.out _ hbox.b)).mono ?_
  rintro e w1 ⟨rfl, hb1⟩
  have hbox1 := hbox.below hb1
  rw [decide_eq_true HY.out]
  clear hbox hb1 c0 c1 c2 HY
  obtain ⟨c0, c1, c2⟩ : _ ∧ _ ∧ _ := ⟨hbox1.c0, hbox1.c1, hbox1.c2⟩
  go_wp2_with fail
  have HB1 := Lib.hid hbox1
  clear hbox1
  refine wp_region_held_drew (S := fun W => W.cell? ⟨B, 0, none⟩ = some (.int .i64 y) ∧ W.cell? ⟨B, 1, none⟩ = some (.int .i64 m) ∧ W.cell? ⟨B, 2, none⟩ = some (.int .i64 d)) (by kernel_rfl) ⟨c0, c1, c2⟩ (fun hHeld => ?_)
  refine wpAnyH_take (i := 0) (oi := ?_) (v := ?_) ?_ (by kernel_rfl) (by kernel_rfl) (by kernel_rfl) ?_ (Or.inl ⟨?_, ?_⟩) (by assumption) ?_
  rotate_left 2
  focus (simp only [List.getElem?_toArray, List.getElem?_cons_zero]; rfl)
  focus exact fun _ _ _ h => h
  focus rfl
  focus (intro W hS; (try dsimp only at hS); obtain ⟨k0, k1, k2⟩ := hS; go_simp; (try with_reducible rfl))
  try simp only [Act.put]
  try simp only [List.setIfInBounds_toArray]
  try simp only [List.set_cons_succ]
  try simp only [List.set_cons_zero]
  refine wpAnyH_take (i := 1) (oi := ?_) (v := ?_) ?_ (by kernel_rfl) (by kernel_rfl) (by kernel_rfl) ?_ (Or.inl ⟨?_, ?_⟩) (by assumption) ?_
  rotate_left 2
  focus (simp only [List.getElem?_toArray, List.getElem?_cons_succ, List.getElem?_cons_zero]; rfl)
  focus exact fun _ _ _ h => h
  focus rfl
  focus (intro W hS; (try dsimp only at hS); obtain ⟨k0, k1, k2⟩ := hS; go_simp; (try with_reducible rfl))
  try simp only [Act.put]
  try simp only [List.setIfInBounds_toArray]
  try simp only [List.set_cons_succ]
  try simp only [List.set_cons_zero]
  refine wpAnyH_take (i := 3) (oi := ?_) (v := ?_) ?_ (by kernel_rfl) (by kernel_rfl) (by kernel_rfl) ?_ (Or.inl ⟨?_, ?_⟩) (by assumption) ?_
  rotate_left 2
  focus (simp only [List.getElem?_toArray, List.getElem?_cons_succ, List.getElem?_cons_zero]; rfl)
  focus exact fun _ _ _ h => h
  focus rfl
  focus (intro W hS; (try dsimp only at hS); obtain ⟨k0, k1, k2⟩ := hS; go_simp; (try with_reducible rfl))
  try simp only [Act.put]
  try simp only [List.setIfInBounds_toArray]
  try simp only [List.set_cons_succ]
  try simp only [List.set_cons_zero]
  refine wpAnyH_take (i := 4) (oi := ?_) (v := ?_) ?_ (by kernel_rfl) (by kernel_rfl) (by kernel_rfl) ?_ (Or.inl ⟨?_, ?_⟩) (by assumption) ?_
  rotate_left 2
  focus (simp only [List.getElem?_toArray, List.getElem?_cons_succ, List.getElem?_cons_zero]; rfl)
  focus exact fun _ _ _ h => h
  focus rfl
  focus (intro W hS; (try dsimp only at hS); obtain ⟨k0, k1, k2⟩ := hS; go_simp; (try with_reducible rfl))
  try simp only [Act.put]
  try simp only [List.setIfInBounds_toArray]
  try simp only [List.set_cons_succ]
  try simp only [List.set_cons_zero]
  refine wpAnyH_ready (rs := [2]) (by kernel_rfl) (by simp) ?_
  refine AllReadyH.cons (o := ?_) ?_ (fun K hK => ?_) AllReadyH.nil
  rotate_left
  focus (simp only [List.getElem?_toArray, List.getElem?_cons_succ, List.getElem?_cons_zero]; rfl)
  rw [if_pos (by rfl)]
  go_simp
  with_reducible refine (HF.out _).mono ?_
  rintro e w2 ⟨rfl, hb2⟩
  have HB2 := Lib.hid (HB1.out.drew.below hb2)
  go_wp2_with fail
  refine hK.out _ _ ⟨HB2.out.c0, HB2.out.c1, HB2.out.c2⟩ (fun hHeld => ?_)
  clear hK K
  try simp only [Act.put]
  try simp only [List.setIfInBounds_toArray]
  try simp only [List.set_cons_succ]
  try simp only [List.set_cons_zero]
  refine wpAnyH_take (i := 5) (oi := ?_) (v := ?_) ?_ (by kernel_rfl) (by kernel_rfl) (by kernel_rfl) ?_ (Or.inl ⟨?_, ?_⟩) (by assumption) ?_
  rotate_left 2
  focus (simp only [List.getElem?_toArray, List.getElem?_cons_succ, List.getElem?_cons_zero]; rfl)
  focus exact fun _ _ _ h => h
  focus rfl
  focus (intro W hS; (try dsimp only at hS); obtain ⟨k0, k1, k2⟩ := hS; go_simp; (try with_reducible rfl))
  try simp only [Act.put]
  try simp only [List.setIfInBounds_toArray]
  try simp only [List.set_cons_succ]
  try simp only [List.set_cons_zero]
  refine wpAnyH_take (i := 6) (oi := ?_) (v := ?_) ?_ (by kernel_rfl) (by kernel_rfl) (by kernel_rfl) ?_ (Or.inl ⟨?_, ?_⟩) (by assumption) ?_
  rotate_left 2
  focus (simp only [List.getElem?_toArray, List.getElem?_cons_succ, List.getElem?_cons_zero]; rfl)
  focus exact fun _ _ _ h => h
  focus rfl
  focus (intro W hS; (try dsimp only at hS); obtain ⟨k0, k1, k2⟩ := hS; go_simp; (try with_reducible rfl))
  try simp only [Act.put]
  try simp only [List.setIfInBounds_toArray]
  try simp only [List.set_cons_succ]
  try simp only [List.set_cons_zero]
  refine wpAnyH_take (i := 7) (oi := ?_) (v := ?_) ?_ (by kernel_rfl) (by kernel_rfl) (by kernel_rfl) ?_ (Or.inl ⟨?_, ?_⟩) (by assumption) ?_
  rotate_left 2
  focus (simp only [List.getElem?_toArray, List.getElem?_cons_succ, List.getElem?_cons_zero]; rfl)
  focus exact fun _ _ _ h => h
  focus rfl
  focus (intro W hS; (try dsimp only at hS); obtain ⟨k0, k1, k2⟩ := hS; go_simp; (try with_reducible rfl))
  try simp only [Act.put]
  try simp only [List.setIfInBounds_toArray]
  try simp only [List.set_cons_succ]
  try simp only [List.set_cons_zero]
  refine wpAnyH_done (by kernel_rfl) ?_ _
  clear HB1 hb2 hHeld c0 c1 c2
  rw [IntWalk.i64_in (D + d) (by omega), IntWalk.i64_in (D + d - 1) (by omega)]
  go_wp2_with fail
  have hbox := HB2.out
  clear HB2
  go_loopw [4, 5] (fun n mo wr => ∃ k : Nat, ((k : Int) + 1 ≤ m) ∧ mo = .int .i64 ((k : Int) + 1) ∧ n = .int .i64 (D + Cal.dbm y k + (d - 1)) ∧ Box w B y m d wr)
    (fun _ mo _ => (m - intOf mo).toNat)
  case atStart => exact ⟨0, by omega, rfl, by rw [show Cal.dbm y 0 = 0 by rfl]; congr 1; omega, hbox⟩
  case round =>
    obtain ⟨k, hk, rfl, rfl, hr⟩ := hrel
    obtain ⟨c0, c1, c2⟩ : _ ∧ _ ∧ _ := ⟨hr.c0, hr.c1, hr.c2⟩
    have hM := dbm_range y k (by omega)
    have HL := Lib.hid (fun w hw => long_any y ((k : Int) + 1) w hw)
    obtain ⟨L, hL⟩ : ∃ L, L = Cal.long y ((k : Int) + 1) := ⟨_, rfl⟩
    have hLr := Cal.long_pos (y := y) (m := (k : Int) + 1) (by omega)
    have HS : Hid (Cal.dbm y (k + 1) = Cal.dbm y k + L) := by
      show _ = _
      rw [hL]
      rfl
    rw [← hL] at HL hLr
    clear hL
    obtain ⟨M, hME⟩ : ∃ M, M = Cal.dbm y k := ⟨_, rfl⟩
    rw [← hME] at HS hM ⊢
    have HME := Lib.hid hME
    clear hME
    by_cases hlt : (k : Int) + 1 < m
    · go_wp2_with fail
      with_reducible refine (HL.out _ (HM.out _ hr.b)).mono ?_
      rintro e w3 ⟨rfl, hb3⟩
      have hr3 := hr.below hb3
      clear hr hb3 c0 c1 c2
      go_wp2_with fail
      go_roundw
      case rel => exact ⟨k + 1, by omega, by go_num, by rw [HS.out]; congr 1; omega, hr3⟩
      case measure => simp [intOf]; omega
    · go_wp2_with fail
      go_ret2
      exact ⟨by rw [HN.out, show (m - 1).toNat = k by omega, ← HME.out]; rfl, hr.b⟩

set_option maxRecDepth 100000 in
theorem days_out (y m d : Int) (w : World) (hw : Mon w) (hmay : ¬ Cal.may y m d) :
    Calls Tryz.prog 98 #[.agg #[.int .i64 y, .int .i64 m, .int .i64 d]] w fun e w' => e = .returned (.tuple #[.int .i64 0, .int .i64 2]) ∧ Below w.heap.size w w' := by
  have hb0 := (Box.new w y m d).b
  have c0 := (Box.new w y m d).c0
  have c1 := (Box.new w y m d).c1
  have c2 := (Box.new w y m d).c2
  have HM := hw.below hb0 hw.1
  have HY := Lib.hid hmay
  clear hmay
  go_enter Tryz.func98, Tryz.ntmps98
  go_wp2_with fail
  with_reducible refine (may_any y m d _ HM).mono ?_
  rintro e w1 ⟨rfl, hb1⟩
  rw [decide_eq_false HY.out]
  go_wp2_with fail
  go_ret2
  exact ⟨rfl, hb0.trans (hb1.mono hb0.size)⟩

theorem days_any (y m d : Int) (w : World) (hw : Mon w) : Calls Tryz.prog 98 #[.agg #[.int .i64 y, .int .i64 m, .int .i64 d]] w fun e w' => e = .returned (dayOf y m d) ∧ Below w.heap.size w w' := by
  unfold dayOf
  by_cases h : Cal.may y m d
  · rw [if_pos h]
    exact days_in y m d w hw h
  · rw [if_neg h]
    exact days_out y m d w hw h
end Go.Proofs.YtoghalmjbbkjhaaGreatDoor.Civ
