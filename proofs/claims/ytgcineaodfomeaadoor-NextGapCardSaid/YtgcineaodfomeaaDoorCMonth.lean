/- civil: how long months are, and which dates may be, by their contracts. -/
import Derived.Test.YtgcineaodfomeaaDoorCYear
import Derived.Lib.LaidTab
import Derived.BigQuiet
namespace Go.Proofs.YtgcineaodfomeaaDoor.Civ
open Go.RowKit

/-- the months' table, as the program laid it -/
def lens : List Int := [31, 28, 31, 30, 31, 30, 31, 31, 30, 31, 30, 31]
def Mon (w : World) : Prop := 0 < w.heap.size ∧ ∀ i : Nat, i < 12 → w.cell? ⟨0, i, none⟩ = some (.int .i64 (lens.getD i 0))
theorem Mon.below {n : Nat} {w w' : World} (h : Mon w) (hb : Below n w w') (hn : 0 < n) : Mon w' :=
  ⟨Nat.lt_of_lt_of_le h.1 hb.size, fun i hi => (hb.cell hn).trans (h.2 i hi)⟩
theorem many_drew {B : Nat} {a w : World} (h : Below B a w) (n : Nat) : Below B a (w.drewN n) := h.trans ⟨rfl, rfl, rfl, Nat.le_refl _, fun _ _ => rfl⟩
theorem lens_range (i : Nat) : 0 ≤ lens.getD i 0 ∧ lens.getD i 0 ≤ 31 := by
  by_cases h : i < 12
  · have : ∀ i : Fin 12, 0 ≤ lens.getD i.val 0 ∧ lens.getD i.val 0 ≤ 31 := by decide
    exact this ⟨i, h⟩
  · have e : lens[i]? = none := List.getElem?_eq_none (by show 12 ≤ i; omega)
    rw [List.getD, e]
    decide
theorem long_lens (y m : Int) (hm : 1 ≤ m ∧ m ≤ 12) : Cal.long y m = if m = 2 ∧ Cal.leap y = true then lens.getD (m - 1).toNat 0 + 1 else lens.getD (m - 1).toNat 0 := by
  have : m = 1 ∨ m = 2 ∨ m = 3 ∨ m = 4 ∨ m = 5 ∨ m = 6 ∨ m = 7 ∨ m = 8 ∨ m = 9 ∨ m = 10 ∨ m = 11 ∨ m = 12 := by omega
  rcases this with rfl | rfl | rfl | rfl | rfl | rfl | rfl | rfl | rfl | rfl | rfl | rfl
  all_goals first | rfl | (unfold Cal.long; simp; rfl) | (unfold Cal.long; split <;> simp_all [lens])

theorem long_any (y m : Int) (w : World) (hw : Mon w) :
    Calls Tryd.prog 39 #[.int .i64 y, .int .i64 m] w fun e w' => e = .returned (.int .i64 (Cal.long y m)) ∧ Below w.heap.size w w' := by
  by_cases hm : 1 ≤ m ∧ m ≤ 12
  · have HL := Lib.hid (long_lens y m hm)
    obtain ⟨k, hk⟩ : ∃ k : Nat, k = (m - 1).toNat := ⟨_, rfl⟩
    have hkm : m = (k : Int) + 1 := by omega
    have hk12 : k < 12 := by omega
    have hc := hw.2 k hk12
    have hr := lens_range k
    rw [← hk] at HL
    generalize lens.getD k 0 = L at *
    generalize Cal.long y m = R at *
    clear hk hw hm
    subst hkm
    by_cases h2 : k = 1
    · subst h2
      go_enter Tryd.func39, Tryd.ntmps39
      go_wp2_with fail
      with_reducible refine (leap_any y _).mono ?_
      rintro e w1 ⟨rfl, hb1⟩
      cases hl : Cal.leap y
      · go_wp2_with fail
        go_ret
        exact ⟨by rw [HL.out, hl]; rfl, hb1⟩
      · go_wp2_with fail
        go_ret
        exact ⟨by rw [HL.out, hl]; rfl, hb1⟩
    · go_enter Tryd.func39, Tryd.ntmps39
      go_wp2_with fail
      go_ret
      exact ⟨by rw [HL.out, if_neg (by omega)]; rfl, Below.refl _ _⟩
  · have HL := Lib.hid (Cal.long_none (y := y) (m := m) (by omega))
    by_cases h1 : m < 1
    · go_enter Tryd.func39, Tryd.ntmps39
      go_wp2_with fail
      go_ret
      exact ⟨by rw [HL.out]; rfl, Below.refl _ _⟩
    · go_enter Tryd.func39, Tryd.ntmps39
      go_wp2_with fail
      go_ret
      exact ⟨by rw [HL.out]; rfl, Below.refl _ _⟩

theorem refLong_any (y m : Int) (w : World) :
    Calls Tryd.prog 38 #[.int .i64 y, .int .i64 m] w fun e w' => e = .returned (.int .i64 (Cal.long y m)) ∧ Below w.heap.size w w' := by
  have hm : (m < 1 ∨ 12 < m) ∨ m = 1 ∨ m = 2 ∨ m = 3 ∨ m = 4 ∨ m = 5 ∨ m = 6 ∨ m = 7 ∨ m = 8 ∨ m = 9 ∨ m = 10 ∨ m = 11 ∨ m = 12 := by omega
  have HY := Lib.hid (refLeap_any y w)
  rcases hm with hm | rfl | rfl | rfl | rfl | rfl | rfl | rfl | rfl | rfl | rfl | rfl | rfl
  case inl =>
    have HL := Lib.hid (Cal.long_none (y := y) hm)
    have h1 : (m == 1) = false := by simp; omega
    have h2 : (m == 2) = false := by simp; omega
    have h3 : (m == 3) = false := by simp; omega
    have h4 : (m == 4) = false := by simp; omega
    have h5 : (m == 5) = false := by simp; omega
    have h6 : (m == 6) = false := by simp; omega
    have h7 : (m == 7) = false := by simp; omega
    have h8 : (m == 8) = false := by simp; omega
    have h9 : (m == 9) = false := by simp; omega
    have h10 : (m == 10) = false := by simp; omega
    have h11 : (m == 11) = false := by simp; omega
    have h12 : (m == 12) = false := by simp; omega
    clear hm
    go_enter Tryd.func38, Tryd.ntmps38
    go_wp2_with fail
    go_ret
    exact ⟨by rw [HL.out]; rfl, Below.refl _ _⟩
  case inr.inr.inl =>
    go_enter Tryd.func38, Tryd.ntmps38
    go_wp2_with fail
    with_reducible refine HY.out.mono ?_
    rintro e w1 ⟨rfl, hb1⟩
    cases hl : Cal.leap y
    · go_wp2_with fail
      go_ret
      exact ⟨by simp [Cal.long, hl], hb1⟩
    · go_wp2_with fail
      go_ret
      exact ⟨by simp [Cal.long, hl], hb1⟩
  all_goals
    go_enter Tryd.func38, Tryd.ntmps38
    go_wp2_with fail
    go_ret
    exact ⟨rfl, Below.refl _ _⟩
end Go.Proofs.YtgcineaodfomeaaDoor.Civ
