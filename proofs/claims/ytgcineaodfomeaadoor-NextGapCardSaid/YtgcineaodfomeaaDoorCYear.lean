/- civil: years and the days of the week, by their contracts. -/
import Derived.Test.YtgcineaodfomeaaDoorCCal
import Derived.Test.YtgcineaodfomeaaDoorProg
import Derived.WalkKit
import Derived.Lib.Hide
import Derived.OneCell
import Derived.Laws.BytesArg
import Derived.Deep.AppendLies
import Derived.Laws.Rows
namespace Go.Proofs.YtgcineaodfomeaaDoor.Civ
open Go.RowKit

theorem leaps_any (y : Int) (w : World) (hy : 1 ≤ y ∧ y ≤ 100000) :
    Calls Tryd.prog 50 #[.int .i64 y] w fun e w' => e = .returned (.int .i64 ((y - 1) / 4 - (y - 1) / 100 + (y - 1) / 400)) ∧ Below w.heap.size w w' := by
  have e4 : (y - 1).tdiv 4 = (y - 1) / 4 := Int.tdiv_eq_ediv_of_nonneg (by omega)
  have e100 : (y - 1).tdiv 100 = (y - 1) / 100 := Int.tdiv_eq_ediv_of_nonneg (by omega)
  have e400 : (y - 1).tdiv 400 = (y - 1) / 400 := Int.tdiv_eq_ediv_of_nonneg (by omega)
  go_enter Tryd.func50, Tryd.ntmps50
  go_wp2
  go_ret
  exact ⟨rfl, Below.refl _ _⟩

theorem tmod7 (n : Int) : -6 ≤ n.tmod 7 ∧ n.tmod 7 ≤ 6 ∧ (n - n.tmod 7) % 7 = 0 := by
  have h1 := Int.emod_nonneg n (b := 7) (by decide)
  by_cases h : 0 ≤ n
  · rw [Int.tmod_eq_emod_of_nonneg h]
    omega
  · have h3 := Int.neg_tmod (-n) 7
    rw [Int.neg_neg] at h3
    rw [h3, Int.tmod_eq_emod_of_nonneg (by omega)]
    omega

theorem week_any (n : Int) (w : World) :
    Calls Tryd.prog 28 #[.int .i64 n] w fun e w' => e = .returned (.int .i64 (Cal.week n)) ∧ Below w.heap.size w w' := by
  obtain ⟨l, u, hm⟩ := tmod7 n
  have e : (n.tmod 7 + 7 + 4) % 7 = Cal.week n := by
    unfold Cal.week
    omega
  have HE := Lib.hid e
  clear e hm
  go_enter Tryd.func28, Tryd.ntmps28
  go_wp2
  go_ret
  exact ⟨by rw [← HE.out]; rfl, Below.refl _ _⟩

theorem refWeek_any (n : Int) (w : World) :
    Calls Tryd.prog 37 #[.int .i64 n] w fun e w' => e = .returned (.int .i64 (Cal.week n)) ∧ Below w.heap.size w w' := by
  obtain ⟨l, u, hm⟩ := tmod7 n
  obtain ⟨l', u', -⟩ := tmod7 (n.tmod 7 + 4)
  have HE := Lib.hid (Cal.week_go n)
  clear hm
  by_cases h : (n.tmod 7 + 4).tmod 7 < 0
  · go_enter Tryd.func37, Tryd.ntmps37
    go_wp2
    all_goals go_ret
    exact ⟨by rw [← HE.out, if_pos h]; rfl, Below.refl _ _⟩
  · go_enter Tryd.func37, Tryd.ntmps37
    go_wp2
    all_goals go_ret
    exact ⟨by rw [← HE.out, if_neg (by omega)]; rfl, Below.refl _ _⟩

theorem leap_tmod (y : Int) : Cal.leap y = (y.tmod 400 == 0 || (y.tmod 100 != 0 && y.tmod 4 == 0)) := by
  unfold Cal.leap
  have h4 := Cal.tmod_zero y 4
  have h100 := Cal.tmod_zero y 100
  have h400 := Cal.tmod_zero y 400
  rw [show (y.tmod 400 == 0) = decide (y.tmod 400 = 0) by rfl, show (y.tmod 4 == 0) = decide (y.tmod 4 = 0) by rfl, show (y.tmod 100 != 0) = !decide (y.tmod 100 = 0) by rfl]
  simp only [h4, h100, h400, ne_eq, decide_not]

theorem refLeap_any (y : Int) (w : World) :
    Calls Tryd.prog 48 #[.int .i64 y] w fun e w' => e = .returned (.bool (Cal.leap y)) ∧ Below w.heap.size w w' := by
  have HE := Lib.hid (leap_tmod y)
  cases h400 : (y.tmod 400 == 0)
  · go_enter Tryd.func48, Tryd.ntmps48
    go_wp2
    all_goals go_ret
    all_goals exact ⟨by rw [HE.out, h400]; simp_all, Below.refl _ _⟩
  · go_enter Tryd.func48, Tryd.ntmps48
    go_wp2
    go_ret
    exact ⟨by rw [HE.out, h400]; rfl, Below.refl _ _⟩

theorem divides_any (y k : Int) (c : Nat) (w : World) (hk : k ≠ 0) (hc : w.cell? ⟨c, 0, none⟩ = some (.int .i64 y)) :
    Calls Tryd.prog 56 #[.int .i64 k, .pointer (some ⟨c, 0, none⟩)] w fun e w' => e = .returned (.bool (y.tmod k == 0)) ∧ Below w.heap.size w w' := by
  go_enter Tryd.func56, Tryd.ntmps56
  go_wp2
  go_ret
  exact ⟨rfl, Below.refl _ _⟩

theorem leap_parts (y : Int) : Cal.leap y = (if (y.tmod 4 == 0) = true ∧ (y.tmod 100 == 0) = false then true else (y.tmod 400 == 0)) := by
  have h4 := Cal.tmod_zero y 4
  have h100 := Cal.tmod_zero y 100
  have h400 := Cal.tmod_zero y 400
  rw [show (y.tmod 400 == 0) = decide (y.tmod 400 = 0) by rfl, show (y.tmod 4 == 0) = decide (y.tmod 4 = 0) by rfl, show (y.tmod 100 == 0) = decide (y.tmod 100 = 0) by rfl]
  unfold Cal.leap
  simp only [h4, h100, h400]
  by_cases a : y % 4 = 0 <;> by_cases b : y % 100 = 0 <;> by_cases c : y % 400 = 0 <;> simp [a, b, c] <;> omega

theorem leap_any (y : Int) (w : World) :
    Calls Tryd.prog 49 #[.int .i64 y] w fun e w' => e = .returned (.bool (Cal.leap y)) ∧ Below w.heap.size w w' := by
  have HE := Lib.hid (leap_parts y)
  generalize Cal.leap y = L at *
  have hb0 : Below w.heap.size w (w.alloc (Obj.cells #[Value.int IntKind.i64 y] 3)) := (Below.refl _ _).alloc (Nat.le_refl _) _
  have hc0 : (w.alloc (Obj.cells #[Value.int IntKind.i64 y] 3)).cell? ⟨w.heap.size, 0, none⟩ = some (.int .i64 y) := by simp
  have hs0 : w.heap.size < (w.alloc (Obj.cells #[Value.int IntKind.i64 y] 3)).heap.size := by simp
  go_enter Tryd.func49, Tryd.ntmps49
  go_wp2_with fail
  generalize w.alloc (Obj.cells #[Value.int IntKind.i64 y] 3) = W at *
  generalize hB : w.heap.size = B at *
  with_reducible refine (divides_any y 4 B W (by decide) hc0).mono ?_
  rintro e w1 ⟨rfl, hb1⟩
  have hc1 := (hb1.cell hs0).trans hc0
  have hb1' := hb0.trans (hb1.mono (by omega))
  have hs1 : B < w1.heap.size := Nat.lt_of_lt_of_le hs0 hb1.size
  cases h4 : (y.tmod 4 == 0)
  · go_wp2_with fail
    with_reducible refine (divides_any y 400 B w1 (by decide) hc1).mono ?_
    rintro e w2 ⟨rfl, hb2⟩
    go_wp2_with fail
    go_ret
    exact ⟨by rw [HE.out, h4, if_neg (by simp)]; rfl, by rw [hB]; exact hb1'.trans (hb2.mono (by omega))⟩
  · go_wp2_with fail
    with_reducible refine (divides_any y 100 B w1 (by decide) hc1).mono ?_
    rintro e w2 ⟨rfl, hb2⟩
    have hc2 := (hb2.cell hs1).trans hc1
    have hb2' := hb1'.trans (hb2.mono (by omega))
    cases h100 : (y.tmod 100 == 0)
    · go_wp2_with fail
      go_ret
      exact ⟨by rw [HE.out, h4, h100, if_pos ⟨rfl, rfl⟩]; rfl, by rw [hB]; exact hb2'⟩
    · go_wp2_with fail
      with_reducible refine (divides_any y 400 B w2 (by decide) hc2).mono ?_
      rintro e w3 ⟨rfl, hb3⟩
      go_wp2_with fail
      go_ret
      exact ⟨by rw [HE.out, h4, h100, if_neg (by simp)]; rfl, by rw [hB]; exact hb2'.trans (hb3.mono (by have := hb2.size; omega))⟩

theorem first_any (y : Int) (w : World) (hy : 1970 ≤ y ∧ y ≤ 2400) :
    Calls Tryd.prog 42 #[.int .i64 y] w fun e w' => e = .returned (.int .i64 (Cal.dby (y - 1970).toNat)) ∧ Below w.heap.size w w' := by
  have he : (y - 1970) * 365 + ((y - 1) / 4 - (y - 1) / 100 + (y - 1) / 400) - ((1970 - 1) / 4 - (1970 - 1) / 100 + (1970 - 1) / 400) = Cal.dby (y - 1970).toNat := by
    rw [Cal.dby_eq]
    omega
  obtain ⟨q, hq⟩ : ∃ q, q = (y - 1) / 4 - (y - 1) / 100 + (y - 1) / 400 := ⟨_, rfl⟩
  rw [← hq] at he
  have hq1 : 0 ≤ q ∧ q ≤ 100000 := by omega
  have HL := Lib.hid (fun w => leaps_any y w (by omega))
  rw [← hq] at HL
  have HE := Lib.hid he
  clear he hq
  go_enter Tryd.func42, Tryd.ntmps42
  go_wp2_with fail
  with_reducible refine (HL.out _).mono ?_
  rintro e w1 ⟨rfl, hb1⟩
  go_wp2_with fail
  with_reducible refine (leaps_any 1970 _ (by decide)).mono ?_
  rintro e w2 ⟨rfl, hb2⟩
  go_wp2_with fail
  go_ret
  exact ⟨by rw [← HE.out]; rfl, hb1.trans (hb2.mono hb1.size)⟩
end Go.Proofs.YtgcineaodfomeaaDoor.Civ
