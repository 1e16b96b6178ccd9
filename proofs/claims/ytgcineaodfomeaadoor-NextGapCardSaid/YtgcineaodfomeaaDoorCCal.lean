/- Plain mathematics of layer 4: days and dates. No program is spoken of here. -/
import Derived.Lib.EndianBits
namespace Go.Proofs.YtgcineaodfomeaaDoor.Cal

def leap (y : Int) : Bool := decide (y % 400 = 0) || (decide (y % 100 ≠ 0) && decide (y % 4 = 0))
def long (y m : Int) : Int :=
  if m = 2 then (if leap y = true then 29 else 28)
  else if m = 4 ∨ m = 6 ∨ m = 9 ∨ m = 11 then 30
  else if 1 ≤ m ∧ m ≤ 12 then 31
  else 0
def may (y m d : Int) : Prop := 1970 ≤ y ∧ y ≤ 2399 ∧ 1 ≤ d ∧ d ≤ long y m
instance (y m d : Int) : Decidable (may y m d) := by unfold may; exact inferInstance
def ylen (y : Int) : Int := if leap y = true then 366 else 365

/-- the days of the first k years from 1970 on -/
def dby : Nat → Int
  | 0 => 0
  | k + 1 => dby k + ylen (1970 + (k : Int))
/-- the days of the first k months -/
def dbm (y : Int) : Nat → Int
  | 0 => 0
  | k + 1 => dbm y k + long y ((k : Int) + 1)
def num (y m d : Int) : Int := dby (y - 1970).toNat + dbm y (m - 1).toNat + (d - 1)
def week (n : Int) : Int := (n + 4) % 7

theorem leap_iff (y : Int) : leap y = true ↔ y % 400 = 0 ∨ (y % 100 ≠ 0 ∧ y % 4 = 0) := by
  unfold leap
  simp
theorem tmod_zero (y k : Int) : y.tmod k = 0 ↔ y % k = 0 := by
  rw [← Int.dvd_iff_tmod_eq_zero, Int.dvd_iff_emod_eq_zero]

theorem long_pos {y m : Int} (h : 1 ≤ m ∧ m ≤ 12) : 28 ≤ long y m ∧ long y m ≤ 31 := by
  unfold long
  repeat' split
  all_goals omega
theorem long_none {y m : Int} (h : m < 1 ∨ 12 < m) : long y m = 0 := by
  unfold long
  repeat' split
  all_goals omega
theorem may_month {y m d : Int} (h : may y m d) : 1 ≤ m ∧ m ≤ 12 := by
  obtain ⟨_, _, h1, h2⟩ := h
  by_cases hm : 1 ≤ m ∧ m ≤ 12
  · exact hm
  · rw [long_none (by omega)] at h2
    omega

theorem ylen_or (y : Int) : ylen y = 365 ∨ ylen y = 366 := by
  unfold ylen
  split
  · exact .inr rfl
  · exact .inl rfl
theorem dbm_12 (y : Int) : dbm y 12 = ylen y := by
  simp only [dbm, long, ylen]
  by_cases h : leap y = true
  · simp [h]
  · simp [h]
theorem dbm_mono (y : Int) {j k : Nat} (h : j ≤ k) (hk : k ≤ 12) : dbm y j ≤ dbm y k := by
  induction k with
  | zero => have : j = 0 := by omega
            subst this; exact Int.le_refl _
  | succ k ih =>
    rcases Nat.lt_or_ge j (k + 1) with h' | h'
    · have h1 := ih (by omega) (by omega)
      have h2 := long_pos (y := y) (m := (k : Int) + 1) (by omega)
      simp only [dbm]
      omega
    · have : j = k + 1 := by omega
      subst this; exact Int.le_refl _
theorem dbm_next (y : Int) {j k : Nat} (h : j < k) (hk : k ≤ 12) : dbm y j + long y ((j : Int) + 1) ≤ dbm y k := dbm_mono y (j := j + 1) (k := k) h hk
theorem dbm_pos (y : Int) (k : Nat) (hk : k ≤ 12) : 0 ≤ dbm y k := dbm_mono y (j := 0) (Nat.zero_le _) hk

theorem dby_mono {j k : Nat} (h : j ≤ k) : dby j ≤ dby k := by
  induction k with
  | zero => have : j = 0 := by omega
            subst this; exact Int.le_refl _
  | succ k ih =>
    rcases Nat.lt_or_ge j (k + 1) with h' | h'
    · have h1 := ih (by omega)
      have h2 := ylen_or (1970 + (k : Int))
      simp only [dby]
      omega
    · have : j = k + 1 := by omega
      subst this; exact Int.le_refl _
theorem dby_next {j k : Nat} (h : j < k) : dby j + ylen (1970 + (j : Int)) ≤ dby k := dby_mono (j := j + 1) (k := k) h
theorem dby_pos (k : Nat) : 0 ≤ dby k := dby_mono (j := 0) (Nat.zero_le _)

/-- the same, by division -/
theorem dby_eq (k : Nat) : dby k = 365 * (k : Int) + ((1969 + (k : Int)) / 4 - (1969 + (k : Int)) / 100 + (1969 + (k : Int)) / 400 - 477) := by
  induction k with
  | zero => simp [dby]
  | succ k ih =>
    simp only [dby]
    rw [ih]
    unfold ylen
    by_cases h : leap (1970 + (k : Int)) = true
    · have h2 := (leap_iff _).1 h
      rw [if_pos h]
      push_cast
      omega
    · have h2 := mt (leap_iff _).2 h
      rw [if_neg h]
      push_cast
      omega
theorem dby_430 : dby 430 = 157054 := by
  rw [dby_eq]
  decide

/-- a date's day is within its year -/
theorem num_in {y m d : Int} (h : may y m d) : dby (y - 1970).toNat ≤ num y m d ∧ num y m d < dby (y - 1970).toNat + ylen y := by
  have hm := may_month h
  obtain ⟨_, _, h1, h2⟩ := h
  have h3 := dbm_next y (j := (m - 1).toNat) (k := 12) (by omega) (Nat.le_refl _)
  rw [dbm_12, show (((m - 1).toNat : Nat) : Int) + 1 = m by omega] at h3
  have h4 := dbm_pos y (m - 1).toNat (by omega)
  unfold num
  omega
theorem num_range {y m d : Int} (h : may y m d) : 0 ≤ num y m d ∧ num y m d < 157054 := by
  have h1 := num_in h
  have h2 := dby_pos (y - 1970).toNat
  have h3 := dby_next (j := (y - 1970).toNat) (k := 430) (by obtain ⟨_, _, _, _⟩ := h; omega)
  rw [show 1970 + (((y - 1970).toNat : Nat) : Int) = y by obtain ⟨_, _, _, _⟩ := h; omega, dby_430] at h3
  omega

/-- which date is earlier -/
def less (y m d y' m' d' : Int) : Prop := y < y' ∨ y = y' ∧ (m < m' ∨ m = m' ∧ d < d')
theorem num_less {y m d y' m' d' : Int} (h : may y m d) (h' : may y' m' d') (hl : less y m d y' m' d') : num y m d < num y' m' d' := by
  rcases hl with hy | ⟨rfl, hm | ⟨rfl, hd⟩⟩
  · have h1 := (num_in h).2
    have h2 := (num_in h').1
    have h3 := dby_next (j := (y - 1970).toNat) (k := (y' - 1970).toNat) (by obtain ⟨_, _, _, _⟩ := h; obtain ⟨_, _, _, _⟩ := h'; omega)
    rw [show 1970 + (((y - 1970).toNat : Nat) : Int) = y by obtain ⟨_, _, _, _⟩ := h; omega] at h3
    omega
  · have a := may_month h
    have a' := may_month h'
    have h3 := dbm_next y (j := (m - 1).toNat) (k := (m' - 1).toNat) (by omega) (by omega)
    rw [show (((m - 1).toNat : Nat) : Int) + 1 = m by omega] at h3
    obtain ⟨_, _, _, h2⟩ := h
    obtain ⟨_, _, h1', _⟩ := h'
    unfold num
    omega
  · unfold num
    omega
theorem less_or (y m d y' m' d' : Int) : less y m d y' m' d' ∨ (y = y' ∧ m = m' ∧ d = d') ∨ less y' m' d' y m d := by
  unfold less
  omega
theorem num_lt {y m d y' m' d' : Int} (h : may y m d) (h' : may y' m' d') : num y m d < num y' m' d' ↔ less y m d y' m' d' := by
  constructor
  · intro hn
    rcases less_or y m d y' m' d' with hl | ⟨rfl, rfl, rfl⟩ | hl
    · exact hl
    · omega
    · have := num_less h' h hl
      omega
  · exact num_less h h'
theorem num_inj {y m d y' m' d' : Int} (h : may y m d) (h' : may y' m' d') (he : num y m d = num y' m' d') : y = y' ∧ m = m' ∧ d = d' := by
  rcases less_or y m d y' m' d' with hl | hl | hl
  · have := num_less h h' hl
    omega
  · exact hl
  · have := num_less h' h hl
    omega

/-- the year of a day -/
theorem year_of (n : Int) (h0 : 0 ≤ n) : ∀ K : Nat, n < dby K → ∃ k : Nat, k < K ∧ dby k ≤ n ∧ n < dby (k + 1)
  | 0, h => by simp only [dby] at h; omega
  | K + 1, h => by
    by_cases hk : n < dby K
    · obtain ⟨k, h1, h2⟩ := year_of n h0 K hk
      exact ⟨k, by omega, h2⟩
    · exact ⟨K, by omega, by omega, h⟩
/-- the month of a day of a year -/
theorem month_of (y n : Int) (h0 : 0 ≤ n) : ∀ K : Nat, n < dbm y K → ∃ k : Nat, k < K ∧ dbm y k ≤ n ∧ n < dbm y (k + 1)
  | 0, h => by simp only [dbm] at h; omega
  | K + 1, h => by
    by_cases hk : n < dbm y K
    · obtain ⟨k, h1, h2⟩ := month_of y n h0 K hk
      exact ⟨k, by omega, h2⟩
    · exact ⟨K, by omega, by omega, h⟩

/-- a date's day again: from a year and a month that fit -/
theorem num_of (k j : Nat) (n : Int) (hk : k < 430) (hj : j < 12) (h1 : dbm (1970 + (k : Int)) j ≤ n) (h2 : n < dbm (1970 + (k : Int)) (j + 1)) :
    may (1970 + (k : Int)) ((j : Int) + 1) (n - dbm (1970 + (k : Int)) j + 1) ∧ num (1970 + (k : Int)) ((j : Int) + 1) (n - dbm (1970 + (k : Int)) j + 1) = dby k + n := by
  simp only [dbm] at h2
  refine ⟨⟨by omega, by omega, by omega, by omega⟩, ?_⟩
  unfold num
  rw [show (1970 + (k : Int) - 1970).toNat = k by omega, show ((j : Int) + 1 - 1).toNat = j by omega]
  omega
theorem num_onto (n : Int) (h0 : 0 ≤ n) (h1 : n < 157054) : ∃ y m d, may y m d ∧ num y m d = n := by
  obtain ⟨k, hk, h2, h3⟩ := year_of n h0 430 (by rw [dby_430]; exact h1)
  simp only [dby] at h3
  obtain ⟨j, hj, h4, h5⟩ := month_of (1970 + (k : Int)) (n - dby k) (by omega) 12 (by rw [dbm_12]; omega)
  obtain ⟨h6, h7⟩ := num_of k j (n - dby k) hk hj h4 h5
  exact ⟨_, _, _, h6, by rw [h7]; omega⟩

/-- Go's own rests of a day of the week -/
theorem week_go (n : Int) : (if (n.tmod 7 + 4).tmod 7 < 0 then (n.tmod 7 + 4).tmod 7 + 7 else (n.tmod 7 + 4).tmod 7) = week n := by
  unfold week
  have e : n.tmod 7 = if 0 ≤ n then n % 7 else -((-n) % 7) := by
    split
    · exact Int.tmod_eq_emod_of_nonneg (by omega)
    · have h := Int.neg_tmod (-n) 7
      rw [Int.neg_neg] at h
      rw [h, Int.tmod_eq_emod_of_nonneg (by omega)]
  rw [e]
  by_cases h : 0 ≤ n
  · rw [if_pos h, Int.tmod_eq_emod_of_nonneg (by omega)]
    split <;> omega
  · rw [if_neg h]
    by_cases h2 : 0 ≤ -(-n % 7) + 4
    · rw [Int.tmod_eq_emod_of_nonneg h2]
      split <;> omega
    · have h3 := Int.neg_tmod (-(-(-n % 7) + 4)) 7
      rw [Int.neg_neg] at h3
      rw [h3, Int.tmod_eq_emod_of_nonneg (by omega)]
      split <;> omega

end Go.Proofs.YtgcineaodfomeaaDoor.Cal
