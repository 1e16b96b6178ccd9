/- civil: years and the days of the week, by their contracts. civil: how long months are, and which dates may be, by their contracts. -/
import Derived.Test.YtoghalmjbbkjhaaGreatDoorMaa
import Derived.Test.YtoghalmjbbkjhaaGreatDoorProg
import Derived.WalkKit
import Derived.Lib.Hide
import Derived.OneCell
import Derived.Laws.BytesArg
import Derived.Deep.AppendLies
import Derived.Laws.Rows
import Derived.Lib.LaidTab
import Derived.BigQuiet
namespace Go.Proofs.YtoghalmjbbkjhaaGreatDoor.Civ
open Go.RowKit

theorem leaps_any (y : Int) (w : World) (hy : 1 ≤ y ∧ y ≤ 100000) :
    Calls Tryz.prog 81 #[.int .i64 y] w fun e w' => e = .returned (.int .i64 ((y - 1) / 4 - (y - 1) / 100 + (y - 1) / 400)) ∧ Below w.heap.size w w' := by
  have e4 : (y - 1).tdiv 4 = (y - 1) / 4 := Int.tdiv_eq_ediv_of_nonneg (by omega)
  have e100 : (y - 1).tdiv 100 = (y - 1) / 100 := Int.tdiv_eq_ediv_of_nonneg (by omega)
  have e400 : (y - 1).tdiv 400 = (y - 1) / 400 := Int.tdiv_eq_ediv_of_nonneg (by omega)
  go_enter Tryz.func81, Tryz.ntmps81
  go_wp2
  go_ret
  exact ⟨rfl, Below.refl _ _⟩

theorem tmod7 (n : Int) : -6 ≤ n.tmod 7 ∧ n.tmod 7 ≤ 6 ∧ (n - n.tmod 7) % 7 = 0 := by
  have h1 := Int.emod_nonneg n (b := 7) (by decide)
  by_cases h : 0 ≤ n
  · rw [Int.tmod_eq_emod_of_nonneg h]
    omega
  · have h3 := Int.neg_tmod (-n) 7
    rw [Int.neg_neg] at h3
    rw [h3, Int.tmod_eq_emod_of_nonneg (by omega)]
    omega

theorem week_any (n : Int) (w : World) :
    Calls Tryz.prog 36 #[.int .i64 n] w fun e w' => e = .returned (.int .i64 (Cal.week n)) ∧ Below w.heap.size w w' := by
  obtain ⟨l, u, hm⟩ := tmod7 n
  have e : (n.tmod 7 + 7 + 4) % 7 = Cal.week n := by
    unfold Cal.week
    omega
  have HE := Lib.hid e
  clear e hm
  go_enter Tryz.func36, Tryz.ntmps36
  go_wp2
  go_ret
  exact ⟨by rw [← HE.out]; rfl, Below.refl _ _⟩

theorem refWeek_any (n : Int) (w : World) :
    Calls Tryz.prog 71 #[.int .i64 n] w fun e w' => e = .returned (.int .i64 (Cal.week n)) ∧ Below w.heap.size w w' := by
  obtain ⟨l, u, hm⟩ := tmod7 n
  obtain ⟨l', u', -⟩ := tmod7 (n.tmod 7 + 4)
  have HE := Lib.hid (Cal.week_go n)
  clear hm
  by_cases h : (n.tmod 7 + 4).tmod 7 < 0
  · go_enter Tryz.func71, Tryz.ntmps71
    go_wp2
    all_goals go_ret
    exact ⟨by rw [← HE.out, if_pos h]; rfl, Below.refl _ _⟩
  · go_enter Tryz.func71, Tryz.ntmps71
    go_wp2
    all_goals go_ret
    exact ⟨by rw [← HE.out, if_neg (by omega)]; rfl, Below.refl _ _⟩

theorem leap_tmod (y : Int) : Cal.leap y = (y.tmod 400 == 0 || (y.tmod 100 != 0 && y.tmod 4 == 0)) := by
  unfold Cal.leap
  have h4 := Cal.tmod_zero y 4
  have h100 := Cal.tmod_zero y 100
  have h400 := Cal.tmod_zero y 400
  rw [show (y.tmod 400 == 0) = decide (y.tmod 400 = 0) by rfl, show (y.tmod 4 == 0) = decide (y.tmod 4 = 0) by rfl, show (y.tmod 100 != 0) = !decide (y.tmod 100 = 0) by rfl]
  simp only [h4, h100, h400, ne_eq, decide_not]

theorem refLeap_any (y : Int) (w : World) :
    Calls Tryz.prog 89 #[.int .i64 y] w fun e w' => e = .returned (.bool (Cal.leap y)) ∧ Below w.heap.size w w' := by
  have HE := Lib.hid (leap_tmod y)
  cases h400 : (y.tmod 400 == 0)
  · go_enter Tryz.func89, Tryz.ntmps89
    go_wp2
    all_goals go_ret
    all_goals exact ⟨by rw [HE.out, h400]; simp_all, Below.refl _ _⟩
  · go_enter Tryz.func89, Tryz.ntmps89
    go_wp2
    go_ret
    exact ⟨by rw [HE.out, h400]; rfl, Below.refl _ _⟩

theorem divides_any (y k : Int) (c : Nat) (w : World) (hk : k ≠ 0) (hc : w.cell? ⟨c, 0, none⟩ = some (.int .i64 y)) :
    Calls Tryz.prog 96 #[.int .i64 k, .pointer (some ⟨c, 0, none⟩)] w fun e w' => e = .returned (.bool (y.tmod k == 0)) ∧ Below w.heap.size w w' := by
  go_enter Tryz.func96, Tryz.ntmps96
  go_wp2
  go_ret
  exact ⟨rfl, Below.refl _ _⟩

theorem leap_parts (y : Int) : Cal.leap y = (if (y.tmod 4 == 0) = true ∧ (y.tmod 100 == 0) = false then true else (y.tmod 400 == 0)) := by
  have h4 := Cal.tmod_zero y 4
  have h100 := Cal.tmod_zero y 100
  have h400 := Cal.tmod_zero y 400
  rw [show (y.tmod 400 == 0) = decide (y.tmod 400 = 0) by rfl, show (y.tmod 4 == 0) = decide (y.tmod 4 = 0) by rfl, show (y.tmod 100 == 0) = decide (y.tmod 100 = 0) by rfl]
  unfold Cal.leap
  simp only [h4, h100, h400]
  by_cases a : y % 4 = 0 <;> by_cases b : y % 100 = 0 <;> by_cases c : y % 400 = 0 <;> simp [a, b, c] <;> omega

theorem leap_any (y : Int) (w : World) :
    Calls Tryz.prog 82 #[.int .i64 y] w fun e w' => e = .returned (.bool (Cal.leap y)) ∧ Below w.heap.size w w' := by
  have HE := Lib.hid (leap_parts y)
  generalize Cal.leap y = L at *
  have hb0 : Below w.heap.size w (w.alloc (Obj.cells #[Value.int IntKind.i64 y] 3)) := (Below.refl _ _).alloc (Nat.le_refl _) _
  have hc0 : (w.alloc (Obj.cells #[Value.int IntKind.i64 y] 3)).cell? ⟨w.heap.size, 0, none⟩ = some (.int .i64 y) := by simp
  have hs0 : w.heap.size < (w.alloc (Obj.cells #[Value.int IntKind.i64 y] 3)).heap.size := by simp
  go_enter Tryz.func82, Tryz.ntmps82
  go_wp2_with fail
  generalize w.alloc (Obj.cells #[Value.int IntKind.i64 y] 3) = W at *
  generalize hB : w.heap.size = B at *
  with_reducible refine (divides_any y 4 B W (by decide) hc0).mono ?_
  rintro e w1 ⟨rfl, hb1⟩
  have hc1 := (hb1.cell hs0).trans hc0
  have hb1' := hb0.trans (hb1.mono (by omega))
  have hs1 : B < w1.heap.size := Nat.lt_of_lt_of_le hs0 hb1.size
  cases h4 : (y.tmod 4 == 0)
  · go_wp2_with fail
    with_reducible refine (divides_any y 400 B w1 (by decide) hc1).mono ?_
    rintro e w2 ⟨rfl, hb2⟩
    go_wp2_with fail
    go_ret
    exact ⟨by rw [HE.out, h4, if_neg (by simp)]; rfl, by rw [hB]; exact hb1'.trans (hb2.mono (by omega))⟩
  · go_wp2_with fail
    with_reducible refine (divides_any y 100 B w1 (by decide) hc1).mono ?_
    rintro e w2 ⟨rfl, hb2⟩
    have hc2 := (hb2.cell hs1).trans hc1
    have hb2' := hb1'.trans (hb2.mono (by omega))
    cases h100 : (y.tmod 100 == 0)
    · go_wp2_with fail
      go_ret
      exact ⟨by rw [HE.out, h4, h100, if_pos ⟨rfl, rfl⟩]; rfl, by rw [hB]; exact hb2'⟩
    · go_wp2_with fail
      with_reducible refine (divides_any y 400 B w2 (by decide) hc2).mono ?_
      rintro e w3 ⟨rfl, hb3⟩
      go_wp2_with fail
      go_ret
      exact ⟨by rw [HE.out, h4, h100, if_neg (by simp)]; rfl, by rw [hB]; exact hb2'.trans (hb3.mono (by have := hb2.size; omega))⟩

theorem first_any (y : Int) (w : World) (hy : 1970 ≤ y ∧ y ≤ 2400) :
    Calls Tryz.prog 61 #[.int .i64 y] w fun e w' => e = .returned (.int .i64 (Cal.dby (y - 1970).toNat)) ∧ Below w.heap.size w w' := by
  have he : (y - 1970) * 365 + ((y - 1) / 4 - (y - 1) / 100 + (y - 1) / 400) - ((1970 - 1) / 4 - (1970 - 1) / 100 + (1970 - 1) / 400) = Cal.dby (y - 1970).toNat := by
    rw [Cal.dby_eq]
    omega
  obtain ⟨q, hq⟩ : ∃ q, q = (y - 1) / 4 - (y - 1) / 100 + (y - 1) / 400 := ⟨_, rfl⟩
  rw [← hq] at he
  have hq1 : 0 ≤ q ∧ q ≤ 100000 := by omega
  have HL := Lib.hid (fun w => leaps_any y w (by omega))
  rw [← hq] at HL
  have HE := Lib.hid he
  clear he hq
  go_enter Tryz.func61, Tryz.ntmps61
  go_wp2_with fail
  with_reducible refine (HL.out _).mono ?_
  rintro e w1 ⟨rfl, hb1⟩
  go_wp2_with fail
  with_reducible refine (leaps_any 1970 _ (by decide)).mono ?_
  rintro e w2 ⟨rfl, hb2⟩
  go_wp2_with fail
  go_ret
  exact ⟨by rw [← HE.out]; rfl, hb1.trans (hb2.mono hb1.size)⟩
end Go.Proofs.YtoghalmjbbkjhaaGreatDoor.Civ

namespace Go.Proofs.YtoghalmjbbkjhaaGreatDoor.Civ
open Go.RowKit

/-- the months' table, as the program laid it -/
def lens : List Int := [31, 28, 31, 30, 31, 30, 31, 31, 30, 31, 30, 31]
def Mon (w : World) : Prop := 1 < w.heap.size ∧ ∀ i : Nat, i < 12 → w.cell? ⟨1, i, none⟩ = some (.int .i64 (lens.getD i 0))
theorem Mon.below {n : Nat} {w w' : World} (h : Mon w) (hb : Below n w w') (hn : 1 < n) : Mon w' :=
  ⟨Nat.lt_of_lt_of_le h.1 hb.size, fun i hi => (hb.cell hn).trans (h.2 i hi)⟩
theorem many_drew {B : Nat} {a w : World} (h : Below B a w) (n : Nat) : Below B a (w.drewN n) := h.trans ⟨rfl, rfl, rfl, Nat.le_refl _, fun _ _ => rfl⟩
theorem lens_range (i : Nat) : 0 ≤ lens.getD i 0 ∧ lens.getD i 0 ≤ 31 := by
  by_cases h : i < 12
  · have : ∀ i : Fin 12, 0 ≤ lens.getD i.val 0 ∧ lens.getD i.val 0 ≤ 31 := by decide
    exact this ⟨i, h⟩
  · have e : lens[i]? = none := List.getElem?_eq_none (by show 12 ≤ i; omega)
    rw [List.getD, e]
    decide
theorem long_lens (y m : Int) (hm : 1 ≤ m ∧ m ≤ 12) : Cal.long y m = if m = 2 ∧ Cal.leap y = true then lens.getD (m - 1).toNat 0 + 1 else lens.getD (m - 1).toNat 0 := by
  have : m = 1 ∨ m = 2 ∨ m = 3 ∨ m = 4 ∨ m = 5 ∨ m = 6 ∨ m = 7 ∨ m = 8 ∨ m = 9 ∨ m = 10 ∨ m = 11 ∨ m = 12 := by omega
  rcases this with rfl | rfl | rfl | rfl | rfl | rfl | rfl | rfl | rfl | rfl | rfl | rfl
  all_goals first | rfl | (unfold Cal.long; simp; rfl) | (unfold Cal.long; split <;> simp_all [lens])

theorem long_any (y m : Int) (w : World) (hw : Mon w) :
    Calls Tryz.prog 62 #[.int .i64 y, .int .i64 m] w fun e w' => e = .returned (.int .i64 (Cal.long y m)) ∧ Below w.heap.size w w' := by
  by_cases hm : 1 ≤ m ∧ m ≤ 12
  · have HL := Lib.hid (long_lens y m hm)
    obtain ⟨k, hk⟩ : ∃ k : Nat, k = (m - 1).toNat := ⟨_, rfl⟩
    have hkm : m = (k : Int) + 1 := by omega
    have hk12 : k < 12 := by omega
    have hc := hw.2 k hk12
    have hr := lens_range k
    rw [← hk] at HL
    generalize lens.getD k 0 = L at *
    generalize Cal.long y m = R at *
    clear hk hw hm
    subst hkm
    by_cases h2 : k = 1
    · subst h2
      go_enter Tryz.func62, Tryz.ntmps62
      go_wp2_with fail
      with_reducible refine (leap_any y _).mono ?_
      rintro e w1 ⟨rfl, hb1⟩
      cases hl : Cal.leap y
      · go_wp2_with fail
        go_ret
        exact ⟨by rw [HL.out, hl]; rfl, hb1⟩
      · go_wp2_with fail
        go_ret
        exact ⟨by rw [HL.out, hl]; rfl, hb1⟩
    · go_enter Tryz.func62, Tryz.ntmps62
      go_wp2_with fail
      go_ret
      exact ⟨by rw [HL.out, if_neg (by omega)]; rfl, Below.refl _ _⟩
  · have HL := Lib.hid (Cal.long_none (y := y) (m := m) (by omega))
    by_cases h1 : m < 1
    · go_enter Tryz.func62, Tryz.ntmps62
      go_wp2_with fail
      go_ret
      exact ⟨by rw [HL.out]; rfl, Below.refl _ _⟩
    · go_enter Tryz.func62, Tryz.ntmps62
      go_wp2_with fail
      go_ret
      exact ⟨by rw [HL.out]; rfl, Below.refl _ _⟩

theorem refLong_any (y m : Int) (w : World) :
    Calls Tryz.prog 72 #[.int .i64 y, .int .i64 m] w fun e w' => e = .returned (.int .i64 (Cal.long y m)) ∧ Below w.heap.size w w' := by
  have hm : (m < 1 ∨ 12 < m) ∨ m = 1 ∨ m = 2 ∨ m = 3 ∨ m = 4 ∨ m = 5 ∨ m = 6 ∨ m = 7 ∨ m = 8 ∨ m = 9 ∨ m = 10 ∨ m = 11 ∨ m = 12 := by omega
  have HY := Lib.hid (refLeap_any y w)
  rcases hm with hm | rfl | rfl | rfl | rfl | rfl | rfl | rfl | rfl | rfl | rfl | rfl | rfl
  case inl =>
    have HL := Lib.hid (Cal.long_none (y := y) hm)
    have h1 : (m == 1) = false := by simp; omega
    have h2 : (m == 2) = false := by simp; omega
    have h3 : (m == 3) = false := by simp; omega
    have h4 : (m == 4) = false := by simp; omega
    have h5 : (m == 5) = false := by simp; omega
    have h6 : (m == 6) = false := by simp; omega
    have h7 : (m == 7) = false := by simp; omega
    have h8 : (m == 8) = false := by simp; omega
    have h9 : (m == 9) = false := by simp; omega
    have h10 : (m == 10) = false := by simp; omega
    have h11 : (m == 11) = false := by simp; omega
    have h12 : (m == 12) = false := by simp; omega
    clear hm
    go_enter Tryz.func72, Tryz.ntmps72
    go_wp2_with fail
    go_ret
    exact ⟨by rw [HL.out]; rfl, Below.refl _ _⟩
  case inr.inr.inl =>
    go_enter Tryz.func72, Tryz.ntmps72
    go_wp2_with fail
    with_reducible refine HY.out.mono ?_
    rintro e w1 ⟨rfl, hb1⟩
    cases hl : Cal.leap y
    · go_wp2_with fail
      go_ret
      exact ⟨by simp [Cal.long, hl], hb1⟩
    · go_wp2_with fail
      go_ret
      exact ⟨by simp [Cal.long, hl], hb1⟩
  all_goals
    go_enter Tryz.func72, Tryz.ntmps72
    go_wp2_with fail
    go_ret
    exact ⟨rfl, Below.refl _ _⟩
end Go.Proofs.YtoghalmjbbkjhaaGreatDoor.Civ
