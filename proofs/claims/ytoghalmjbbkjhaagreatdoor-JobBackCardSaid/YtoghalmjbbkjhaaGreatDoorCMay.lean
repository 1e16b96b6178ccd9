/- civil.May and the reference's, by their contracts. -/
import Derived.Test.YtoghalmjbbkjhaaGreatDoorMab
import Derived.BigQuiet
import Derived.Deep.RegionHeld
namespace Go.Proofs.YtoghalmjbbkjhaaGreatDoor.Civ
open Go.RowKit

set_option maxRecDepth 100000 in
set_option maxHeartbeats 2000000 in
theorem may_any (y m d : Int) (w : World) (hw : Mon w) :
    Calls Tryz.prog 106 #[.agg #[.int .i64 y, .int .i64 m, .int .i64 d]] w fun e w' => e = .returned (.bool (decide (Cal.may y m d))) ∧ Below w.heap.size w w' := by
  have hb0 : Below w.heap.size w (w.alloc (.cells #[.int .i64 y, .int .i64 m, .int .i64 d] 47)) := (Below.refl _ _).alloc (Nat.le_refl _) _
  have c0 : (w.alloc (.cells #[.int .i64 y, .int .i64 m, .int .i64 d] 47)).cell? ⟨w.heap.size, 0, none⟩ = some (.int .i64 y) := by simp
  have c1 : (w.alloc (.cells #[.int .i64 y, .int .i64 m, .int .i64 d] 47)).cell? ⟨w.heap.size, 1, none⟩ = some (.int .i64 m) := by simp
  have c2 : (w.alloc (.cells #[.int .i64 y, .int .i64 m, .int .i64 d] 47)).cell? ⟨w.heap.size, 2, none⟩ = some (.int .i64 d) := by simp
  by_cases h1 : 1970 ≤ y
  · have g1 : decide (1970 ≤ y) = true := by simp; omega
    by_cases h2 : y ≤ 2399
    · have g2 : decide (y ≤ 2399) = true := by simp; omega
      by_cases h3 : 1 ≤ d
      · have g3 : decide (1 ≤ d) = true := by simp; omega
        have HE : Hid (decide (d ≤ Cal.long y m) = decide (Cal.may y m d)) := by
          show decide _ = decide _
          congr 1
          unfold Cal.may
          simp [h1, h2, h3]
        clear h1 h2 h3
        go_enter Tryz.func106, Tryz.ntmps106
        go_wp2_with fail
        have HSZ : Hid (w.heap.size < (w.alloc (.cells #[.int .i64 y, .int .i64 m, .int .i64 d] 47)).drew.heap.size) := by show _ < _; simp
        have HM0 := Lib.hid ((hw.below hb0 hw.1).below (Below.refl (1 + 1) _).drew (Nat.lt_succ_self _))
        generalize w.alloc (.cells #[.int .i64 y, .int .i64 m, .int .i64 d] 47) = W at *
        generalize hB : w.heap.size = B at *
        have HM : Hid (Mon W.drew) := HM0
        have HS : Hid (B < W.drew.heap.size) := HSZ.out
        refine wp_region_held_drew (S := fun W => W.cell? ⟨B, 0, none⟩ = some (.int .i64 y) ∧ W.cell? ⟨B, 1, none⟩ = some (.int .i64 m) ∧ W.cell? ⟨B, 2, none⟩ = some (.int .i64 d)) (by kernel_rfl) ⟨c0, c1, c2⟩ (fun hHeld => ?_)
        refine wpAnyH_take (i := 0) (oi := ?_) (v := ?_) ?_ (by kernel_rfl) (by kernel_rfl) (by kernel_rfl) ?_ (Or.inl ⟨?_, ?_⟩) (by assumption) ?_
        rotate_left 2
        focus (simp only [List.getElem?_toArray, List.getElem?_cons_zero]; rfl)
        focus exact fun _ _ _ h => h
        focus rfl
        focus (intro W hS; (try dsimp only at hS); obtain ⟨k0, k1, k2⟩ := hS; go_simp; (try with_reducible rfl))
        try simp only [Act.put]
        try simp only [List.setIfInBounds_toArray]
        try simp only [List.set_cons_succ]
        try simp only [List.set_cons_zero]
        refine wpAnyH_take (i := 1) (oi := ?_) (v := ?_) ?_ (by kernel_rfl) (by kernel_rfl) (by kernel_rfl) ?_ (Or.inl ⟨?_, ?_⟩) (by assumption) ?_
        rotate_left 2
        focus (simp only [List.getElem?_toArray, List.getElem?_cons_succ, List.getElem?_cons_zero]; rfl)
        focus exact fun _ _ _ h => h
        focus rfl
        focus (intro W hS; (try dsimp only at hS); obtain ⟨k0, k1, k2⟩ := hS; go_simp; (try with_reducible rfl))
        try simp only [Act.put]
        try simp only [List.setIfInBounds_toArray]
        try simp only [List.set_cons_succ]
        try simp only [List.set_cons_zero]
        refine wpAnyH_take (i := 2) (oi := ?_) (v := ?_) ?_ (by kernel_rfl) (by kernel_rfl) (by kernel_rfl) ?_ (Or.inl ⟨?_, ?_⟩) (by assumption) ?_
        rotate_left 2
        focus (simp only [List.getElem?_toArray, List.getElem?_cons_succ, List.getElem?_cons_zero]; rfl)
        focus exact fun _ _ _ h => h
        focus rfl
        focus (intro W hS; (try dsimp only at hS); obtain ⟨k0, k1, k2⟩ := hS; go_simp; (try with_reducible rfl))
        try simp only [Act.put]
        try simp only [List.setIfInBounds_toArray]
        try simp only [List.set_cons_succ]
        try simp only [List.set_cons_zero]
        refine wpAnyH_take (i := 3) (oi := ?_) (v := ?_) ?_ (by kernel_rfl) (by kernel_rfl) (by kernel_rfl) ?_ (Or.inl ⟨?_, ?_⟩) (by assumption) ?_
        rotate_left 2
        focus (simp only [List.getElem?_toArray, List.getElem?_cons_succ, List.getElem?_cons_zero]; rfl)
        focus exact fun _ _ _ h => h
        focus rfl
        focus (intro W hS; (try dsimp only at hS); obtain ⟨k0, k1, k2⟩ := hS; go_simp; (try with_reducible rfl))
        try simp only [Act.put]
        try simp only [List.setIfInBounds_toArray]
        try simp only [List.set_cons_succ]
        try simp only [List.set_cons_zero]
        refine wpAnyH_take (i := 4) (oi := ?_) (v := ?_) ?_ (by kernel_rfl) (by kernel_rfl) (by kernel_rfl) ?_ (Or.inl ⟨?_, ?_⟩) (by assumption) ?_
        rotate_left 2
        focus (simp only [List.getElem?_toArray, List.getElem?_cons_succ, List.getElem?_cons_zero]; rfl)
        focus exact fun _ _ _ h => h
        focus rfl
        focus (intro W hS; (try dsimp only at hS); obtain ⟨k0, k1, k2⟩ := hS; go_simp; (try with_reducible rfl))
        try simp only [Act.put]
        try simp only [List.setIfInBounds_toArray]
        try simp only [List.set_cons_succ]
        try simp only [List.set_cons_zero]
        refine wpAnyH_take (i := 5) (oi := ?_) (v := ?_) ?_ (by kernel_rfl) (by kernel_rfl) (by kernel_rfl) ?_ (Or.inl ⟨?_, ?_⟩) (by assumption) ?_
        rotate_left 2
        focus (simp only [List.getElem?_toArray, List.getElem?_cons_succ, List.getElem?_cons_zero]; rfl)
        focus exact fun _ _ _ h => h
        focus rfl
        focus (intro W hS; (try dsimp only at hS); obtain ⟨k0, k1, k2⟩ := hS; go_simp; (try with_reducible rfl))
        try simp only [Act.put]
        try simp only [List.setIfInBounds_toArray]
        try simp only [List.set_cons_succ]
        try simp only [List.set_cons_zero]
        refine wpAnyH_take (i := 6) (oi := ?_) (v := ?_) ?_ (by kernel_rfl) (by kernel_rfl) (by kernel_rfl) ?_ (Or.inl ⟨?_, ?_⟩) (by assumption) ?_
        rotate_left 2
        focus (simp only [List.getElem?_toArray, List.getElem?_cons_succ, List.getElem?_cons_zero]; rfl)
        focus exact fun _ _ _ h => h
        focus rfl
        focus (intro W hS; (try dsimp only at hS); obtain ⟨k0, k1, k2⟩ := hS; go_simp; (try with_reducible rfl))
        try simp only [Act.put]
        try simp only [List.setIfInBounds_toArray]
        try simp only [List.set_cons_succ]
        try simp only [List.set_cons_zero]
        refine wpAnyH_take (i := 7) (oi := ?_) (v := ?_) ?_ (by kernel_rfl) (by kernel_rfl) (by kernel_rfl) ?_ (Or.inl ⟨?_, ?_⟩) (by assumption) ?_
        rotate_left 2
        focus (simp only [List.getElem?_toArray, List.getElem?_cons_succ, List.getElem?_cons_zero]; rfl)
        focus exact fun _ _ _ h => h
        focus rfl
        focus (intro W hS; (try dsimp only at hS); obtain ⟨k0, k1, k2⟩ := hS; go_simp; (try with_reducible rfl))
        try simp only [Act.put]
        try simp only [List.setIfInBounds_toArray]
        try simp only [List.set_cons_succ]
        try simp only [List.set_cons_zero]
        refine wpAnyH_take (i := 8) (oi := ?_) (v := ?_) ?_ (by kernel_rfl) (by kernel_rfl) (by kernel_rfl) ?_ (Or.inl ⟨?_, ?_⟩) (by assumption) ?_
        rotate_left 2
        focus (simp only [List.getElem?_toArray, List.getElem?_cons_succ, List.getElem?_cons_zero]; rfl)
        focus exact fun _ _ _ h => h
        focus rfl
        focus (intro W hS; (try dsimp only at hS); obtain ⟨k0, k1, k2⟩ := hS; go_simp; (try with_reducible rfl))
        try simp only [Act.put]
        try simp only [List.setIfInBounds_toArray]
        try simp only [List.set_cons_succ]
        try simp only [List.set_cons_zero]
        refine wpAnyH_take (i := 9) (oi := ?_) (v := ?_) ?_ (by kernel_rfl) (by kernel_rfl) (by kernel_rfl) ?_ (Or.inl ⟨?_, ?_⟩) (by assumption) ?_
        rotate_left 2
        focus (simp only [List.getElem?_toArray, List.getElem?_cons_succ, List.getElem?_cons_zero]; rfl)
        focus exact fun _ _ _ h => h
        focus rfl
        focus (intro W hS; (try dsimp only at hS); obtain ⟨k0, k1, k2⟩ := hS; go_simp; (try with_reducible rfl))
        try simp only [Act.put]
        try simp only [List.setIfInBounds_toArray]
        try simp only [List.set_cons_succ]
        try simp only [List.set_cons_zero]
        refine wpAnyH_take (i := 10) (oi := ?_) (v := ?_) ?_ (by kernel_rfl) (by kernel_rfl) (by kernel_rfl) ?_ (Or.inl ⟨?_, ?_⟩) (by assumption) ?_
        rotate_left 2
        focus (simp only [List.getElem?_toArray, List.getElem?_cons_succ, List.getElem?_cons_zero]; rfl)
        focus exact fun _ _ _ h => h
        focus rfl
        focus (intro W hS; (try dsimp only at hS); obtain ⟨k0, k1, k2⟩ := hS; go_simp; (try with_reducible rfl))
        try simp only [Act.put]
        try simp only [List.setIfInBounds_toArray]
        try simp only [List.set_cons_succ]
        try simp only [List.set_cons_zero]
        refine wpAnyH_take (i := 11) (oi := ?_) (v := ?_) ?_ (by kernel_rfl) (by kernel_rfl) (by kernel_rfl) ?_ (Or.inl ⟨?_, ?_⟩) (by assumption) ?_
        rotate_left 2
        focus (simp only [List.getElem?_toArray, List.getElem?_cons_succ, List.getElem?_cons_zero]; rfl)
        focus exact fun _ _ _ h => h
        focus rfl
        focus (intro W hS; (try dsimp only at hS); obtain ⟨k0, k1, k2⟩ := hS; go_simp; (try with_reducible rfl))
        try simp only [Act.put]
        try simp only [List.setIfInBounds_toArray]
        try simp only [List.set_cons_succ]
        try simp only [List.set_cons_zero]
        refine wpAnyH_take (i := 12) (oi := ?_) (v := ?_) ?_ (by kernel_rfl) (by kernel_rfl) (by kernel_rfl) ?_ (Or.inl ⟨?_, ?_⟩) (by assumption) ?_
        rotate_left 2
        focus (simp only [List.getElem?_toArray, List.getElem?_cons_succ, List.getElem?_cons_zero]; rfl)
        focus exact fun _ _ _ h => h
        focus rfl
        focus (intro W hS; (try dsimp only at hS); obtain ⟨k0, k1, k2⟩ := hS; go_simp; (try with_reducible rfl))
        try simp only [Act.put]
        try simp only [List.setIfInBounds_toArray]
        try simp only [List.set_cons_succ]
        try simp only [List.set_cons_zero]
        refine wpAnyH_take (i := 13) (oi := ?_) (v := ?_) ?_ (by kernel_rfl) (by kernel_rfl) (by kernel_rfl) ?_ (Or.inl ⟨?_, ?_⟩) (by assumption) ?_
        rotate_left 2
        focus (simp only [List.getElem?_toArray, List.getElem?_cons_succ, List.getElem?_cons_zero]; rfl)
        focus exact fun _ _ _ h => h
        focus rfl
        focus (intro W hS; (try dsimp only at hS); obtain ⟨k0, k1, k2⟩ := hS; go_simp; (try with_reducible rfl))
        try simp only [Act.put]
        try simp only [List.setIfInBounds_toArray]
        try simp only [List.set_cons_succ]
        try simp only [List.set_cons_zero]
        refine wpAnyH_take (i := 14) (oi := ?_) (v := ?_) ?_ (by kernel_rfl) (by kernel_rfl) (by kernel_rfl) ?_ (Or.inl ⟨?_, ?_⟩) (by assumption) ?_
        rotate_left 2
        focus (simp only [List.getElem?_toArray, List.getElem?_cons_succ, List.getElem?_cons_zero]; rfl)
        focus exact fun _ _ _ h => h
        focus rfl
        focus (intro W hS; (try dsimp only at hS); obtain ⟨k0, k1, k2⟩ := hS; go_simp; (try with_reducible rfl))
        try simp only [Act.put]
        try simp only [List.setIfInBounds_toArray]
        try simp only [List.set_cons_succ]
        try simp only [List.set_cons_zero]
        refine wpAnyH_take (i := 15) (oi := ?_) (v := ?_) ?_ (by kernel_rfl) (by kernel_rfl) (by kernel_rfl) ?_ (Or.inl ⟨?_, ?_⟩) (by assumption) ?_
        rotate_left 2
        focus (simp only [List.getElem?_toArray, List.getElem?_cons_succ, List.getElem?_cons_zero]; rfl)
        focus exact fun _ _ _ h => h
        focus rfl
        focus (intro W hS; (try dsimp only at hS); obtain ⟨k0, k1, k2⟩ := hS; go_simp; (try with_reducible rfl))
        try simp only [Act.put]
        try simp only [List.setIfInBounds_toArray]
        try simp only [List.set_cons_succ]
        try simp only [List.set_cons_zero]
        refine wpAnyH_take (i := 16) (oi := ?_) (v := ?_) ?_ (by kernel_rfl) (by kernel_rfl) (by kernel_rfl) ?_ (Or.inl ⟨?_, ?_⟩) (by assumption) ?_
        rotate_left 2
        focus (simp only [List.getElem?_toArray, List.getElem?_cons_succ, List.getElem?_cons_zero]; rfl)
        focus exact fun _ _ _ h => h
        focus rfl
        focus (intro W hS; (try dsimp only at hS); obtain ⟨k0, k1, k2⟩ := hS; go_simp; (try with_reducible rfl))
        try simp only [Act.put]
        try simp only [List.setIfInBounds_toArray]
        try simp only [List.set_cons_succ]
        try simp only [List.set_cons_zero]
        refine wpAnyH_take (i := 17) (oi := ?_) (v := ?_) ?_ (by kernel_rfl) (by kernel_rfl) (by kernel_rfl) ?_ (Or.inl ⟨?_, ?_⟩) (by assumption) ?_
        rotate_left 2
        focus (simp only [List.getElem?_toArray, List.getElem?_cons_succ, List.getElem?_cons_zero]; rfl)
        focus exact fun _ _ _ h => h
        focus rfl
        focus (intro W hS; (try dsimp only at hS); obtain ⟨k0, k1, k2⟩ := hS; go_simp; (try with_reducible rfl))
        try simp only [Act.put]
        try simp only [List.setIfInBounds_toArray]
        try simp only [List.set_cons_succ]
        try simp only [List.set_cons_zero]
        refine wpAnyH_take (i := 18) (oi := ?_) (v := ?_) ?_ (by kernel_rfl) (by kernel_rfl) (by kernel_rfl) ?_ (Or.inl ⟨?_, ?_⟩) (by assumption) ?_
        rotate_left 2
        focus (simp only [List.getElem?_toArray, List.getElem?_cons_succ, List.getElem?_cons_zero]; rfl)
        focus exact fun _ _ _ h => h
        focus rfl
        focus (intro W hS; (try dsimp only at hS); obtain ⟨k0, k1, k2⟩ := hS; go_simp; (try with_reducible rfl))
        try simp only [Act.put]
        try simp only [List.setIfInBounds_toArray]
        try simp only [List.set_cons_succ]
        try simp only [List.set_cons_zero]
        refine wpAnyH_take (i := 19) (oi := ?_) (v := ?_) ?_ (by kernel_rfl) (by kernel_rfl) (by kernel_rfl) ?_ (Or.inl ⟨?_, ?_⟩) (by assumption) ?_
        rotate_left 2
        focus (simp only [List.getElem?_toArray, List.getElem?_cons_succ, List.getElem?_cons_zero]; rfl)
        focus exact fun _ _ _ h => h
        focus rfl
        focus (intro W hS; (try dsimp only at hS); obtain ⟨k0, k1, k2⟩ := hS; go_simp; (try with_reducible rfl))
        try simp only [Act.put]
        try simp only [List.setIfInBounds_toArray]
        try simp only [List.set_cons_succ]
        try simp only [List.set_cons_zero]
        refine wpAnyH_ready (rs := [20]) (by kernel_rfl) (by simp) ?_
        refine AllReadyH.cons (o := ?_) ?_ (fun K hK => ?_) AllReadyH.nil
        rotate_left
        focus (simp only [List.getElem?_toArray, List.getElem?_cons_succ, List.getElem?_cons_zero]; rfl)
        rw [if_pos (by rfl)]
        go_simp
        with_reducible refine (long_any y m _ HM.out).mono ?_
        rintro e w1 ⟨rfl, hb1⟩
        have HB := Lib.hid hb1
        go_wp2_with fail
        refine hK.out _ _ ⟨(HB.out.cell HS.out).trans c0, (HB.out.cell HS.out).trans c1, (HB.out.cell HS.out).trans c2⟩ (fun hHeld => ?_)
        clear hK K
        try simp only [Act.put]
        try simp only [List.setIfInBounds_toArray]
        try simp only [List.set_cons_succ]
        try simp only [List.set_cons_zero]
        refine wpAnyH_take (i := 21) (oi := ?_) (v := ?_) ?_ (by kernel_rfl) (by kernel_rfl) (by kernel_rfl) ?_ (Or.inl ⟨?_, ?_⟩) (by assumption) ?_
        rotate_left 2
        focus (simp only [List.getElem?_toArray, List.getElem?_cons_succ, List.getElem?_cons_zero]; rfl)
        focus exact fun _ _ _ h => h
        focus rfl
        focus (intro W hS; (try dsimp only at hS); obtain ⟨k0, k1, k2⟩ := hS; go_simp; (try with_reducible rfl))
        try simp only [Act.put]
        try simp only [List.setIfInBounds_toArray]
        try simp only [List.set_cons_succ]
        try simp only [List.set_cons_zero]
        refine wpAnyH_take (i := 22) (oi := ?_) (v := ?_) ?_ (by kernel_rfl) (by kernel_rfl) (by kernel_rfl) ?_ (Or.inl ⟨?_, ?_⟩) (by assumption) ?_
        rotate_left 2
        focus (simp only [List.getElem?_toArray, List.getElem?_cons_succ, List.getElem?_cons_zero]; rfl)
        focus exact fun _ _ _ h => h
        focus rfl
        focus (intro W hS; (try dsimp only at hS); obtain ⟨k0, k1, k2⟩ := hS; go_simp; (try with_reducible rfl))
        try simp only [Act.put]
        try simp only [List.setIfInBounds_toArray]
        try simp only [List.set_cons_succ]
        try simp only [List.set_cons_zero]
        refine wpAnyH_take (i := 23) (oi := ?_) (v := ?_) ?_ (by kernel_rfl) (by kernel_rfl) (by kernel_rfl) ?_ (Or.inl ⟨?_, ?_⟩) (by assumption) ?_
        rotate_left 2
        focus (simp only [List.getElem?_toArray, List.getElem?_cons_succ, List.getElem?_cons_zero]; rfl)
        focus exact fun _ _ _ h => h
        focus rfl
        focus (intro W hS; (try dsimp only at hS); obtain ⟨k0, k1, k2⟩ := hS; go_simp; (try with_reducible rfl))
        try simp only [Act.put]
        try simp only [List.setIfInBounds_toArray]
        try simp only [List.set_cons_succ]
        try simp only [List.set_cons_zero]
        refine wpAnyH_done (by kernel_rfl) ?_ _
        go_wp2
        go_ret
        exact ⟨by rw [← HE.out]; rfl, by rw [hB]; exact hb0.trans ((Below.refl _ _).drew.trans (HB.out.mono (Nat.le_of_lt HS.out)))⟩
      · have g3 : decide (1 ≤ d) = false := by simp; omega
        have HE : Hid (false = decide (Cal.may y m d)) := by
          show false = decide _
          rw [eq_comm, decide_eq_false_iff_not]
          rintro ⟨a, b, c, -⟩
          omega
        go_enter Tryz.func106, Tryz.ntmps106
        go_wp2_with fail
        go_quiet (fail)
        go_wp2_with fail
        go_ret
        exact ⟨by rw [← HE.out]; rfl, many_drew hb0 _⟩
    · have g2 : decide (y ≤ 2399) = false := by simp; omega
      have HE : Hid (false = decide (Cal.may y m d)) := by
        show false = decide _
        rw [eq_comm, decide_eq_false_iff_not]
        rintro ⟨a, b, c, -⟩
        omega
      go_enter Tryz.func106, Tryz.ntmps106
      go_wp2_with fail
      go_quiet (fail)
      go_wp2_with fail
      go_ret
      exact ⟨by rw [← HE.out]; rfl, many_drew hb0 _⟩
  · have g1 : decide (1970 ≤ y) = false := by simp; omega
    have HE : Hid (false = decide (Cal.may y m d)) := by
      show false = decide _
      rw [eq_comm, decide_eq_false_iff_not]
      rintro ⟨a, b, c, -⟩
      omega
    go_enter Tryz.func106, Tryz.ntmps106
    go_wp2_with fail
    go_quiet (fail)
    go_wp2_with fail
    go_ret
    exact ⟨by rw [← HE.out]; rfl, many_drew hb0 _⟩

end Go.Proofs.YtoghalmjbbkjhaaGreatDoor.Civ
