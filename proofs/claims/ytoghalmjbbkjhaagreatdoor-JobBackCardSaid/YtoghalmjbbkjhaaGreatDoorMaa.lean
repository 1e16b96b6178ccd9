/- Plain mathematics of layer 4: days and dates. No program is spoken of here. Plain mathematics: the year of a day, guessed by years of 366 days. Moments and clocks: the mathematics. No model in this text. -/
import Derived.Lib.EndianBits
import Derived.Lib.ItoaNum
namespace Go.Proofs.YtoghalmjbbkjhaaGreatDoor.Cal

def leap (y : Int) : Bool := decide (y % 400 = 0) || (decide (y % 100 ≠ 0) && decide (y % 4 = 0))
def long (y m : Int) : Int :=
  if m = 2 then (if leap y = true then 29 else 28)
  else if m = 4 ∨ m = 6 ∨ m = 9 ∨ m = 11 then 30
  else if 1 ≤ m ∧ m ≤ 12 then 31
  else 0
def may (y m d : Int) : Prop := 1970 ≤ y ∧ y ≤ 2399 ∧ 1 ≤ d ∧ d ≤ long y m
instance (y m d : Int) : Decidable (may y m d) := by unfold may; exact inferInstance
def ylen (y : Int) : Int := if leap y = true then 366 else 365

/-- the days of the first k years from 1970 on -/
def dby : Nat → Int
  | 0 => 0
  | k + 1 => dby k + ylen (1970 + (k : Int))
/-- the days of the first k months -/
def dbm (y : Int) : Nat → Int
  | 0 => 0
  | k + 1 => dbm y k + long y ((k : Int) + 1)
def num (y m d : Int) : Int := dby (y - 1970).toNat + dbm y (m - 1).toNat + (d - 1)
def week (n : Int) : Int := (n + 4) % 7

theorem leap_iff (y : Int) : leap y = true ↔ y % 400 = 0 ∨ (y % 100 ≠ 0 ∧ y % 4 = 0) := by
  unfold leap
  simp
theorem tmod_zero (y k : Int) : y.tmod k = 0 ↔ y % k = 0 := by
  rw [← Int.dvd_iff_tmod_eq_zero, Int.dvd_iff_emod_eq_zero]

theorem long_pos {y m : Int} (h : 1 ≤ m ∧ m ≤ 12) : 28 ≤ long y m ∧ long y m ≤ 31 := by
  unfold long
  repeat' split
  all_goals omega
theorem long_none {y m : Int} (h : m < 1 ∨ 12 < m) : long y m = 0 := by
  unfold long
  repeat' split
  all_goals omega
theorem may_month {y m d : Int} (h : may y m d) : 1 ≤ m ∧ m ≤ 12 := by
  obtain ⟨_, _, h1, h2⟩ := h
  by_cases hm : 1 ≤ m ∧ m ≤ 12
  · exact hm
  · rw [long_none (by omega)] at h2
    omega

theorem ylen_or (y : Int) : ylen y = 365 ∨ ylen y = 366 := by
  unfold ylen
  split
  · exact .inr rfl
  · exact .inl rfl
theorem dbm_12 (y : Int) : dbm y 12 = ylen y := by
  simp only [dbm, long, ylen]
  by_cases h : leap y = true
  · simp [h]
  · simp [h]
theorem dbm_mono (y : Int) {j k : Nat} (h : j ≤ k) (hk : k ≤ 12) : dbm y j ≤ dbm y k := by
  induction k with
  | zero => have : j = 0 := by omega
            subst this; exact Int.le_refl _
  | succ k ih =>
    rcases Nat.lt_or_ge j (k + 1) with h' | h'
    · have h1 := ih (by omega) (by omega)
      have h2 := long_pos (y := y) (m := (k : Int) + 1) (by omega)
      simp only [dbm]
      omega
    · have : j = k + 1 := by omega
      subst this; exact Int.le_refl _
theorem dbm_next (y : Int) {j k : Nat} (h : j < k) (hk : k ≤ 12) : dbm y j + long y ((j : Int) + 1) ≤ dbm y k := dbm_mono y (j := j + 1) (k := k) h hk
theorem dbm_pos (y : Int) (k : Nat) (hk : k ≤ 12) : 0 ≤ dbm y k := dbm_mono y (j := 0) (Nat.zero_le _) hk

theorem dby_mono {j k : Nat} (h : j ≤ k) : dby j ≤ dby k := by
  induction k with
  | zero => have : j = 0 := by omega
            subst this; exact Int.le_refl _
  | succ k ih =>
    rcases Nat.lt_or_ge j (k + 1) with h' | h'
    · have h1 := ih (by omega)
      have h2 := ylen_or (1970 + (k : Int))
      simp only [dby]
      omega
    · have : j = k + 1 := by omega
      subst this; exact Int.le_refl _
theorem dby_next {j k : Nat} (h : j < k) : dby j + ylen (1970 + (j : Int)) ≤ dby k := dby_mono (j := j + 1) (k := k) h
theorem dby_pos (k : Nat) : 0 ≤ dby k := dby_mono (j := 0) (Nat.zero_le _)

/-- the same, by division -/
theorem dby_eq (k : Nat) : dby k = 365 * (k : Int) + ((1969 + (k : Int)) / 4 - (1969 + (k : Int)) / 100 + (1969 + (k : Int)) / 400 - 477) := by
  induction k with
  | zero => simp [dby]
  | succ k ih =>
    simp only [dby]
    rw [ih]
    unfold ylen
    by_cases h : leap (1970 + (k : Int)) = true
    · have h2 := (leap_iff _).1 h
      rw [if_pos h]
      push_cast
      omega
    · have h2 := mt (leap_iff _).2 h
      rw [if_neg h]
      push_cast
      omega
theorem dby_430 : dby 430 = 157054 := by
  rw [dby_eq]
  decide

/-- a date's day is within its year -/
theorem num_in {y m d : Int} (h : may y m d) : dby (y - 1970).toNat ≤ num y m d ∧ num y m d < dby (y - 1970).toNat + ylen y := by
  have hm := may_month h
  obtain ⟨_, _, h1, h2⟩ := h
  have h3 := dbm_next y (j := (m - 1).toNat) (k := 12) (by omega) (Nat.le_refl _)
  rw [dbm_12, show (((m - 1).toNat : Nat) : Int) + 1 = m by omega] at h3
  have h4 := dbm_pos y (m - 1).toNat (by omega)
  unfold num
  omega
theorem num_range {y m d : Int} (h : may y m d) : 0 ≤ num y m d ∧ num y m d < 157054 := by
  have h1 := num_in h
  have h2 := dby_pos (y - 1970).toNat
  have h3 := dby_next (j := (y - 1970).toNat) (k := 430) (by obtain ⟨_, _, _, _⟩ := h; omega)
  rw [show 1970 + (((y - 1970).toNat : Nat) : Int) = y by obtain ⟨_, _, _, _⟩ := h; omega, dby_430] at h3
  omega

/-- which date is earlier -/
def less (y m d y' m' d' : Int) : Prop := y < y' ∨ y = y' ∧ (m < m' ∨ m = m' ∧ d < d')
theorem num_less {y m d y' m' d' : Int} (h : may y m d) (h' : may y' m' d') (hl : less y m d y' m' d') : num y m d < num y' m' d' := by
  rcases hl with hy | ⟨rfl, hm | ⟨rfl, hd⟩⟩
  · have h1 := (num_in h).2
    have h2 := (num_in h').1
    have h3 := dby_next (j := (y - 1970).toNat) (k := (y' - 1970).toNat) (by obtain ⟨_, _, _, _⟩ := h; obtain ⟨_, _, _, _⟩ := h'; omega)
    rw [show 1970 + (((y - 1970).toNat : Nat) : Int) = y by obtain ⟨_, _, _, _⟩ := h; omega] at h3
    omega
  · have a := may_month h
    have a' := may_month h'
    have h3 := dbm_next y (j := (m - 1).toNat) (k := (m' - 1).toNat) (by omega) (by omega)
    rw [show (((m - 1).toNat : Nat) : Int) + 1 = m by omega] at h3
    obtain ⟨_, _, _, h2⟩ := h
    obtain ⟨_, _, h1', _⟩ := h'
    unfold num
    omega
  · unfold num
    omega
theorem less_or (y m d y' m' d' : Int) : less y m d y' m' d' ∨ (y = y' ∧ m = m' ∧ d = d') ∨ less y' m' d' y m d := by
  unfold less
  omega
theorem num_lt {y m d y' m' d' : Int} (h : may y m d) (h' : may y' m' d') : num y m d < num y' m' d' ↔ less y m d y' m' d' := by
  constructor
  · intro hn
    rcases less_or y m d y' m' d' with hl | ⟨rfl, rfl, rfl⟩ | hl
    · exact hl
    · omega
    · have := num_less h' h hl
      omega
  · exact num_less h h'
theorem num_inj {y m d y' m' d' : Int} (h : may y m d) (h' : may y' m' d') (he : num y m d = num y' m' d') : y = y' ∧ m = m' ∧ d = d' := by
  rcases less_or y m d y' m' d' with hl | hl | hl
  · have := num_less h h' hl
    omega
  · exact hl
  · have := num_less h' h hl
    omega

/-- the year of a day -/
theorem year_of (n : Int) (h0 : 0 ≤ n) : ∀ K : Nat, n < dby K → ∃ k : Nat, k < K ∧ dby k ≤ n ∧ n < dby (k + 1)
  | 0, h => by simp only [dby] at h; omega
  | K + 1, h => by
    by_cases hk : n < dby K
    · obtain ⟨k, h1, h2⟩ := year_of n h0 K hk
      exact ⟨k, by omega, h2⟩
    · exact ⟨K, by omega, by omega, h⟩
/-- the month of a day of a year -/
theorem month_of (y n : Int) (h0 : 0 ≤ n) : ∀ K : Nat, n < dbm y K → ∃ k : Nat, k < K ∧ dbm y k ≤ n ∧ n < dbm y (k + 1)
  | 0, h => by simp only [dbm] at h; omega
  | K + 1, h => by
    by_cases hk : n < dbm y K
    · obtain ⟨k, h1, h2⟩ := month_of y n h0 K hk
      exact ⟨k, by omega, h2⟩
    · exact ⟨K, by omega, by omega, h⟩

/-- a date's day again: from a year and a month that fit -/
theorem num_of (k j : Nat) (n : Int) (hk : k < 430) (hj : j < 12) (h1 : dbm (1970 + (k : Int)) j ≤ n) (h2 : n < dbm (1970 + (k : Int)) (j + 1)) :
    may (1970 + (k : Int)) ((j : Int) + 1) (n - dbm (1970 + (k : Int)) j + 1) ∧ num (1970 + (k : Int)) ((j : Int) + 1) (n - dbm (1970 + (k : Int)) j + 1) = dby k + n := by
  simp only [dbm] at h2
  refine ⟨⟨by omega, by omega, by omega, by omega⟩, ?_⟩
  unfold num
  rw [show (1970 + (k : Int) - 1970).toNat = k by omega, show ((j : Int) + 1 - 1).toNat = j by omega]
  omega
theorem num_onto (n : Int) (h0 : 0 ≤ n) (h1 : n < 157054) : ∃ y m d, may y m d ∧ num y m d = n := by
  obtain ⟨k, hk, h2, h3⟩ := year_of n h0 430 (by rw [dby_430]; exact h1)
  simp only [dby] at h3
  obtain ⟨j, hj, h4, h5⟩ := month_of (1970 + (k : Int)) (n - dby k) (by omega) 12 (by rw [dbm_12]; omega)
  obtain ⟨h6, h7⟩ := num_of k j (n - dby k) hk hj h4 h5
  exact ⟨_, _, _, h6, by rw [h7]; omega⟩

/-- Go's own rests of a day of the week -/
theorem week_go (n : Int) : (if (n.tmod 7 + 4).tmod 7 < 0 then (n.tmod 7 + 4).tmod 7 + 7 else (n.tmod 7 + 4).tmod 7) = week n := by
  unfold week
  have e : n.tmod 7 = if 0 ≤ n then n % 7 else -((-n) % 7) := by
    split
    · exact Int.tmod_eq_emod_of_nonneg (by omega)
    · have h := Int.neg_tmod (-n) 7
      rw [Int.neg_neg] at h
      rw [h, Int.tmod_eq_emod_of_nonneg (by omega)]
  rw [e]
  by_cases h : 0 ≤ n
  · rw [if_pos h, Int.tmod_eq_emod_of_nonneg (by omega)]
    split <;> omega
  · rw [if_neg h]
    by_cases h2 : 0 ≤ -(-n % 7) + 4
    · rw [Int.tmod_eq_emod_of_nonneg h2]
      split <;> omega
    · have h3 := Int.neg_tmod (-(-(-n % 7) + 4)) 7
      rw [Int.neg_neg] at h3
      rw [h3, Int.tmod_eq_emod_of_nonneg (by omega)]
      split <;> omega

end Go.Proofs.YtoghalmjbbkjhaaGreatDoor.Cal

namespace Go.Proofs.YtoghalmjbbkjhaaGreatDoor.Cal

/-- years of 366 days each: never too late, one year too early at most -/
theorem dby_low (j : Nat) (hj : j ≤ 430) : 366 * (j : Int) - 366 ≤ dby j := by
  have e0 := dby_eq j
  have h4 : 1966 + (j : Int) ≤ 4 * ((1969 + (j : Int)) / 4) := by omega
  have h100 : 100 * ((1969 + (j : Int)) / 100) ≤ 1969 + (j : Int) := by omega
  have h400 : 1570 + (j : Int) ≤ 400 * ((1969 + (j : Int)) / 400) := by omega
  generalize (1969 + (j : Int)) / 4 = a at *
  generalize (1969 + (j : Int)) / 100 = b at *
  generalize (1969 + (j : Int)) / 400 = c at *
  omega
theorem dby_high (j : Nat) : dby j ≤ 366 * (j : Int) := by
  induction j with
  | zero => simp [dby]
  | succ j ih =>
    have := ylen_or (1970 + (j : Int))
    simp only [dby]
    omega
theorem guess (j : Nat) (n : Int) (hj : j < 430) (h0 : dby j ≤ n) (h1 : n < dby (j + 1)) : n / 366 = (j : Int) ∨ (n / 366 = (j : Int) - 1 ∧ 1 ≤ j) := by
  have hl := dby_low j (by omega)
  have hh := dby_high (j + 1)
  have hp := dby_pos j
  generalize dby j = D at *
  generalize dby (j + 1) = E at *
  omega
theorem num_parts {y m d : Int} (h : may y m d) : ∃ j k : Nat, j < 430 ∧ k < 12 ∧ y = 1970 + (j : Int) ∧ m = (k : Int) + 1 ∧ num y m d = dby j + dbm y k + (d - 1) ∧ dby j ≤ num y m d ∧ num y m d < dby (j + 1) := by
  have hm := may_month h
  have hi := num_in h
  obtain ⟨h1, h2, h3, h4⟩ := h
  refine ⟨(y - 1970).toNat, (m - 1).toNat, by omega, by omega, by omega, by omega, rfl, hi.1, ?_⟩
  have e : dby ((y - 1970).toNat + 1) = dby (y - 1970).toNat + ylen (1970 + (((y - 1970).toNat : Nat) : Int)) := rfl
  rw [show 1970 + (((y - 1970).toNat : Nat) : Int) = y by omega] at e
  omega
end Go.Proofs.YtoghalmjbbkjhaaGreatDoor.Cal

namespace Go.Proofs.YtoghalmjbbkjhaaGreatDoor.Stm

/-- which clocks may be -/
def may (y m d h i s k : Int) : Prop := Cal.may y m d ∧ 0 ≤ h ∧ h < 24 ∧ 0 ≤ i ∧ i < 60 ∧ 0 ≤ s ∧ s < 60 ∧ k = Cal.week (Cal.num y m d)
instance (y m d h i s k : Int) : Decidable (may y m d h i s k) := by unfold may; exact inferInstance
/-- a clock's moment -/
def num (y m d h i s : Int) : Int := Cal.num y m d * 86400 + h * 3600 + i * 60 + s

theorem num_range {y m d h i s k : Int} (hm : may y m d h i s k) : 0 ≤ num y m d h i s ∧ num y m d h i s < 13569465600 := by
  obtain ⟨h1, h2, h3, h4, h5, h6, h7, -⟩ := hm
  have := Cal.num_range h1
  unfold num
  omega
theorem onto (t : Int) (h0 : 0 ≤ t) (h1 : t < 13569465600) : ∃ y m d h i s k, may y m d h i s k ∧ num y m d h i s = t := by
  obtain ⟨y, m, d, hm, hn⟩ := Cal.num_onto (t / 86400) (by omega) (by omega)
  refine ⟨y, m, d, t / 3600 % 24, t / 60 % 60, t % 60, Cal.week (Cal.num y m d), ⟨hm, by omega, by omega, by omega, by omega, by omega, by omega, rfl⟩, ?_⟩
  unfold num
  rw [hn]
  omega
theorem parts {y m d h i s k : Int} (hm : may y m d h i s k) :
    num y m d h i s / 86400 = Cal.num y m d ∧ num y m d h i s % 86400 = h * 3600 + i * 60 + s ∧ (h * 3600 + i * 60 + s) / 3600 = h ∧ (h * 3600 + i * 60 + s) % 3600 = i * 60 + s ∧
    (i * 60 + s) / 60 = i ∧ (h * 3600 + i * 60 + s) % 60 = s ∧ num y m d h i s % 60 = s ∧ num y m d h i s / 60 % 60 = i ∧ num y m d h i s / 3600 % 24 = h := by
  obtain ⟨h1, h2, h3, h4, h5, h6, h7, -⟩ := hm
  have := Cal.num_range h1
  unfold num
  omega
theorem inj {y m d h i s k y' m' d' h' i' s' k' : Int} (hm : may y m d h i s k) (hm' : may y' m' d' h' i' s' k') (he : num y m d h i s = num y' m' d' h' i' s') :
    y = y' ∧ m = m' ∧ d = d' ∧ h = h' ∧ i = i' ∧ s = s' ∧ k = k' := by
  have p := parts hm
  have p' := parts hm'
  rw [he] at p
  have hn : Cal.num y m d = Cal.num y' m' d' := by omega
  obtain ⟨rfl, rfl, rfl⟩ := Cal.num_inj hm.1 hm'.1 hn
  have hk := hm.2.2.2.2.2.2.2
  have hk' := hm'.2.2.2.2.2.2.2
  refine ⟨rfl, rfl, rfl, ?_, ?_, ?_, ?_⟩ <;> omega

/-! texts -/
/-- a number's digits, so many -/
def dig : Nat → Nat → List UInt8
  | 0, _ => []
  | k + 1, n => dig k (n / 10) ++ [UInt8.ofNat (48 + n % 10)]
theorem dig_length (k n : Nat) : (dig k n).length = k := by
  induction k generalizing n with
  | zero => rfl
  | succ k ih => simp [dig, ih]
theorem dig_dec : ∀ (k n : Nat), 10 ^ k ≤ n → n < 10 ^ (k + 1) → Lib.decDigits n = dig (k + 1) n
  | 0, n, _, h => by
    have h : n < 10 := by simpa using h
    rw [Lib.decDigits_one h]
    simp only [dig, List.nil_append]
    rw [Nat.mod_eq_of_lt h]
  | k + 1, n, h0, h => by
    rw [Nat.pow_succ] at h0
    rw [Nat.pow_succ] at h
    have h10 : ¬ n < 10 := by have := Nat.one_le_two_pow (n := k); have : 1 ≤ 10 ^ k := Nat.one_le_pow _ _ (by decide); omega
    rw [Lib.decDigits, dif_neg h10, dig_dec k (n / 10) (by omega) (by omega)]
    rfl
/-- a clock's text -/
def txt (y m d h i s : Int) : List UInt8 :=
  dig 4 y.toNat ++ 45 :: (dig 2 m.toNat ++ 45 :: (dig 2 d.toNat ++ 84 :: (dig 2 h.toNat ++ 58 :: (dig 2 i.toNat ++ 58 :: dig 2 s.toNat))))
theorem txt_length (y m d h i s : Int) : (txt y m d h i s).length = 19 := by
  simp [txt, dig_length]
end Go.Proofs.YtoghalmjbbkjhaaGreatDoor.Stm
