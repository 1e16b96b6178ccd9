/- Plain mathematics: the year of a day, guessed by years of 366 days. -/
import Derived.Test.YtgcineaodfomeaaDoorCCal
namespace Go.Proofs.YtgcineaodfomeaaDoor.Cal

/-- years of 366 days each: never too late, one year too early at most -/
theorem dby_low (j : Nat) (hj : j ≤ 430) : 366 * (j : Int) - 366 ≤ dby j := by
  have e0 := dby_eq j
  have h4 : 1966 + (j : Int) ≤ 4 * ((1969 + (j : Int)) / 4) := by omega
  have h100 : 100 * ((1969 + (j : Int)) / 100) ≤ 1969 + (j : Int) := by omega
  have h400 : 1570 + (j : Int) ≤ 400 * ((1969 + (j : Int)) / 400) := by omega
  generalize (1969 + (j : Int)) / 4 = a at *
  generalize (1969 + (j : Int)) / 100 = b at *
  generalize (1969 + (j : Int)) / 400 = c at *
  omega
theorem dby_high (j : Nat) : dby j ≤ 366 * (j : Int) := by
  induction j with
  | zero => simp [dby]
  | succ j ih =>
    have := ylen_or (1970 + (j : Int))
    simp only [dby]
    omega
theorem guess (j : Nat) (n : Int) (hj : j < 430) (h0 : dby j ≤ n) (h1 : n < dby (j + 1)) : n / 366 = (j : Int) ∨ (n / 366 = (j : Int) - 1 ∧ 1 ≤ j) := by
  have hl := dby_low j (by omega)
  have hh := dby_high (j + 1)
  have hp := dby_pos j
  generalize dby j = D at *
  generalize dby (j + 1) = E at *
  omega
theorem num_parts {y m d : Int} (h : may y m d) : ∃ j k : Nat, j < 430 ∧ k < 12 ∧ y = 1970 + (j : Int) ∧ m = (k : Int) + 1 ∧ num y m d = dby j + dbm y k + (d - 1) ∧ dby j ≤ num y m d ∧ num y m d < dby (j + 1) := by
  have hm := may_month h
  have hi := num_in h
  obtain ⟨h1, h2, h3, h4⟩ := h
  refine ⟨(y - 1970).toNat, (m - 1).toNat, by omega, by omega, by omega, by omega, rfl, hi.1, ?_⟩
  have e : dby ((y - 1970).toNat + 1) = dby (y - 1970).toNat + ylen (1970 + (((y - 1970).toNat : Nat) : Int)) := rfl
  rw [show 1970 + (((y - 1970).toNat : Nat) : Int) = y by omega] at e
  omega
end Go.Proofs.YtgcineaodfomeaaDoor.Cal
