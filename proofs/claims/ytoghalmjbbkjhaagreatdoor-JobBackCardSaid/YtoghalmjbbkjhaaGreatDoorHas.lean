/- field.Has, field.First, and the reference's, by their contracts. -/
import Derived.Test.YtoghalmjbbkjhaaGreatDoorBase
namespace Go.Proofs.YtoghalmjbbkjhaaGreatDoor
open Go.RowKit

namespace Fld
/-- whether a field allows a number -/
def has (b : Nat) (n : Int) : Bool := decide (0 ≤ n) && (decide (n < 64) && b.testBit n.toNat)
theorem has_in {b n : Nat} (h : n < 64) : has b (n : Int) = b.testBit n := by simp [has]; omega
theorem has_out {b : Nat} {n : Int} (h : ¬ (0 ≤ n ∧ n < 64)) : has b n = false := by simp [has]; omega
theorem has_nat {b : Nat} (hb : b < 2 ^ 64) (n : Nat) : has b (n : Int) = b.testBit n := by
  by_cases h : n < 64
  · exact has_in h
  · rw [has_out (by omega)]
    exact (Nat.testBit_lt_two_pow (Nat.lt_of_lt_of_le hb (Nat.pow_le_pow_right (by decide) (by omega)))).symm
/-- the first number from n on that a field allows -/
def first (b : Nat) (n : Int) : Option Nat := (List.range 64).find? (fun m => decide (n ≤ (m : Int)) && b.testBit m)
theorem first_some {b : Nat} {n : Int} {m : Nat} (h64 : m < 64) (hn : n ≤ m) (hm : b.testBit m = true) (hno : ∀ j : Nat, n ≤ (j : Int) → j < m → b.testBit j = false) : first b n = some m := by
  unfold first
  rw [List.find?_range_eq_some]
  refine ⟨by simp [hn, hm], by simpa using h64, fun j hj => ?_⟩
  by_cases h : n ≤ (j : Int)
  · rw [hno j h hj]; simp
  · simp [h]
theorem first_spec {b : Nat} {n : Int} {m : Nat} (h : first b n = some m) : m < 64 ∧ n ≤ m ∧ b.testBit m = true ∧ ∀ j : Nat, n ≤ (j : Int) → j < m → b.testBit j = false := by
  unfold first at h
  rw [List.find?_range_eq_some] at h
  obtain ⟨h1, h2, h3⟩ := h
  simp at h1 h2
  refine ⟨h2, h1.1, h1.2, fun j hn hj => ?_⟩
  have := h3 j hj
  simpa [hn] using this
theorem first_none {b : Nat} {n : Int} : first b n = none ↔ ∀ j : Nat, n ≤ (j : Int) → j < 64 → b.testBit j = false := by
  unfold first
  rw [List.find?_range_eq_none]
  constructor
  · intro h j hn hj
    have := h j hj
    simpa [hn] using this
  · intro h j hj
    by_cases hn : n ≤ (j : Int)
    · rw [h j hn hj]; simp
    · simp [hn]
end Fld

theorem shr_nat (b n : Nat) : (b : Int) / (2 : Int) ^ n = ((b / 2 ^ n : Nat) : Int) := by norm_cast
theorem and_one (x : Nat) (hx : x < 18446744073709551616) : bits .and .u64 (x : Int) 1 = ((x % 2 : Nat) : Int) := by
  rw [show (1 : Int) = ((1 : Nat) : Int) from rfl, u64_and_nat x 1 hx (by decide), nat_mask1]
theorem test_div (b n : Nat) : (b / 2 ^ n) % 2 = (b.testBit n).toNat := by rw [Nat.testBit_eq_decide_div_mod_eq]; rcases Nat.mod_two_eq_zero_or_one (b / 2 ^ n) with h | h <;> simp [h]

theorem has_val (b m : Nat) (hb : b < 2 ^ 64) : (bits .and .u64 ((b : Int) / (2 : Int) ^ m) 1 == 1) = b.testBit m := by
  have hx : b / 2 ^ m < 18446744073709551616 := Nat.lt_of_le_of_lt (Nat.div_le_self _ _) hb
  rw [shr_nat, and_one _ hx, test_div]
  cases b.testBit m <;> rfl

set_option maxRecDepth 100000 in
theorem has_any (b : Nat) (hb : b < 2 ^ 64) (star : Bool) (n : Int) (w : World) (hn : -9223372036854775808 ≤ n ∧ n ≤ 9223372036854775807) : Calls Tryz.prog 41 #[.agg #[.int .u64 (b : Int), .bool star], .int .i64 n] w fun e w' => e = .returned (.bool (Fld.has b n)) ∧ Below w.heap.size w w' := by
  have o := OwnF.new w b star
  obtain ⟨c0, c1⟩ := o.cells
  have bel := o.bel
  by_cases h : 0 ≤ n ∧ n < 64
  · obtain ⟨h0, h1⟩ := h
    obtain ⟨m, rfl⟩ := Int.eq_ofNat_of_zero_le h0
    have hm : m < 64 := by omega
    have HH := Lib.hid (Fld.has_in (b := b) hm)
    have HV := Lib.hid (has_val b m hb)
    generalize Fld.has b (m : Int) = R at HH ⊢
    have g0 : decide ((0 : Int) ≤ (m : Int)) = true := by simp
    have g1 : decide ((m : Int) < 64) = true := by simp; omega
    clear o hn
    go_enter Tryz.func41, Tryz.ntmps41
    go_wp2_with fail
    go_ret
    exact ⟨by rw [HV.out, ← HH.out]; rfl, bel⟩
  · have HH := Lib.hid (Fld.has_out (b := b) h)
    generalize Fld.has b n = R at HH ⊢
    by_cases h0 : 0 ≤ n
    · have g0 : decide (0 ≤ n) = true := by simp; omega
      have g1 : decide (n < 64) = false := by simp; omega
      clear o hn
      go_enter Tryz.func41, Tryz.ntmps41
      go_wp2_with fail
      go_ret
      exact ⟨by rw [HH.out]; rfl, bel⟩
    · have g0 : decide (0 ≤ n) = false := by simp; omega
      clear o hn
      go_enter Tryz.func41, Tryz.ntmps41
      go_wp2_with fail
      go_ret
      exact ⟨by rw [HH.out]; rfl, bel⟩

/-! how many noughts stand at a number's end -/
theorem low_bit (x i : Nat) (hx : x < 18446744073709551616) (hi : x.testBit i = true) (hj : ∀ j, j < i → x.testBit j = false) : x &&& (18446744073709551616 - x) = 2 ^ i := by
  have h0 : x ≠ 0 := fun h => by rw [h] at hi; simp at hi
  have h64 : i < 64 := by
    rcases Nat.lt_or_ge i 64 with h | h
    · exact h
    · rw [Nat.testBit_lt_two_pow (Nat.lt_of_lt_of_le hx (Nat.pow_le_pow_right (n := 2) (by decide) h))] at hi; simp at hi
  -- x is 2^i · (2 q + 1)
  obtain ⟨q, hq⟩ : ∃ q, q = x / 2 ^ i := ⟨_, rfl⟩
  have hmod : x % 2 ^ i = 0 := by
    refine Nat.eq_of_testBit_eq fun j => ?_
    rw [Nat.testBit_mod_two_pow, Nat.zero_testBit]
    by_cases h : j < i
    · rw [hj j h]; simp
    · simp [h]
  have hxq : x = 2 ^ i * q := by have := Nat.div_add_mod x (2 ^ i); rw [hmod, ← hq] at this; omega
  have hodd : q % 2 = 1 := by rw [hq, test_div, hi]; rfl
  obtain ⟨r, hr⟩ : ∃ r, q = 2 * r + 1 := ⟨q / 2, by omega⟩
  have hpos : 0 < 2 ^ i := Nat.two_pow_pos i
  -- x - 1 = 2^i · 2 r + (2^i - 1)
  have hx1 : x - 1 = 2 ^ i * (2 * r) + (2 ^ i - 1) := by
    rw [hxq, hr, Nat.mul_add]; omega
  have hsub : 18446744073709551616 - x = 2 ^ 64 - ((x - 1) + 1) := by
    have : (2 : Nat) ^ 64 = 18446744073709551616 := by decide
    omega
  refine Nat.eq_of_testBit_eq fun j => ?_
  rw [Nat.testBit_and, hsub, Nat.testBit_two_pow_sub_succ (by have : (2 : Nat) ^ 64 = 18446744073709551616 := by decide
                                                              omega), hx1, Nat.testBit_two_pow_mul_add _ (by omega), Nat.testBit_two_pow]
  by_cases h : j < i
  · rw [hj j h]
    have : i ≠ j := by omega
    simp [this]
  · rw [if_neg h]
    by_cases e : j = i
    · subst e
      rw [hi]
      simp [h64]
    · have e' : i ≠ j := fun h => e h.symm
      have hd : (2 * r).testBit (j - i) = x.testBit j := by
        rw [hxq, Nat.testBit_two_pow_mul, hr]
        obtain ⟨d, hd⟩ : ∃ d, j - i = d + 1 := ⟨j - i - 1, by omega⟩
        rw [hd, Nat.testBit_succ, Nat.testBit_succ]
        have : i ≤ j := by omega
        simp [this]
        congr 1
        omega
      rw [hd]
      cases x.testBit j <;> simp [e']
theorem tz_slot : ∀ i : Fin 64, (2 ^ i.val * 285870213051353865) % 18446744073709551616 / 288230376151711744 < 64 := by decide +kernel

set_option maxRecDepth 100000 in
theorem tz_any (x i : Nat) (hx : x < 18446744073709551616) (h64 : i < 64) (hi : x.testBit i = true) (hj : ∀ j, j < i → x.testBit j = false) (w : World) (hw : Tabs w) :
    Calls Tryz.prog 140 #[.int .u64 (x : Int)] w fun e w' => e = .returned (.int .i64 (i : Int)) ∧ w = w' := by
  have h0 : 0 < x := by
    rcases Nat.eq_zero_or_pos x with h | h
    · rw [h] at hi; simp at hi
    · exact h
  have hlow := low_bit x i hx hi hj
  have hc := hw.tz i h64
  have hr := tz_slot ⟨i, h64⟩
  simp only at hr
  obtain ⟨y, hy⟩ : ∃ y, y = 18446744073709551616 - x := ⟨_, rfl⟩
  have e1 : IntKind.u64.wrap (-(x : Int)) = (y : Int) := by rw [IntKind.wrap_u64]; omega
  have hyl : y < 18446744073709551616 := by omega
  rw [← hy] at hlow
  obtain ⟨p, hp⟩ : ∃ p, p = 2 ^ i := ⟨_, rfl⟩
  rw [← hp] at hlow hc hr
  have e2 : bits .and .u64 (x : Int) (y : Int) = (p : Int) := by rw [u64_and_nat x y hx hyl, hlow]
  obtain ⟨q, hq⟩ : ∃ q, q = (p * 285870213051353865) % 18446744073709551616 := ⟨_, rfl⟩
  have e3 : IntKind.u64.wrap ((p : Int) * 285870213051353865) = (q : Int) := by rw [IntKind.wrap_u64]; omega
  rw [← hq] at hc hr
  obtain ⟨r, hr'⟩ : ∃ r, r = q / 288230376151711744 := ⟨_, rfl⟩
  rw [← hr'] at hc hr
  have e4 : (q : Int) / 288230376151711744 = (r : Int) := by omega
  have g0 : ((x : Int) == 0) = false := by simp; omega
  clear hi hj hlow hp hq hy hr' hw
  go_enter Tryz.func140, Tryz.ntmps140
  go_wp2_with fail
  go_ret
  exact ⟨rfl, rfl⟩

/-- what First tells -/
def firstOf (b : Nat) (n : Int) : Value := .tuple #[.int .i64 (((Fld.first b n).getD 0 : Nat) : Int), .bool (Fld.first b n).isSome]
theorem firstOf_none {b : Nat} {n : Int} (h : Fld.first b n = none) : firstOf b n = .tuple #[.int .i64 0, .bool false] := by unfold firstOf; rw [h]; rfl
theorem firstOf_some {b : Nat} {n : Int} {m : Nat} (h : Fld.first b n = some m) : firstOf b n = .tuple #[.int .i64 (m : Int), .bool true] := by unfold firstOf; rw [h]; rfl

theorem div_bit (b m j : Nat) : (b / 2 ^ m).testBit j = b.testBit (m + j) := by rw [Nat.testBit_div_two_pow, Nat.add_comm]
theorem first_cut {b : Nat} (hb : b < 2 ^ 64) {n : Int} {m : Nat} (hm : max n 0 = (m : Int)) :
    (b / 2 ^ m = 0 ∧ Fld.first b n = none) ∨ ∃ i, i < 64 ∧ (b / 2 ^ m).testBit i = true ∧ (∀ j, j < i → (b / 2 ^ m).testBit j = false) ∧ m + i < 64 ∧ Fld.first b n = some (m + i) := by
  by_cases h : b / 2 ^ m = 0
  · refine .inl ⟨h, Fld.first_none.2 fun j hn hj => ?_⟩
    obtain ⟨d, rfl⟩ : ∃ d, j = m + d := ⟨j - m, by omega⟩
    rw [← div_bit, h, Nat.zero_testBit]
  · refine .inr ?_
    obtain ⟨j, hj⟩ := Nat.exists_testBit_of_ne_zero h
    have hlt : ∀ j, (b / 2 ^ m).testBit j = true → m + j < 64 := fun j hj => by
      rw [div_bit] at hj
      rcases Nat.lt_or_ge (m + j) 64 with h | h
      · exact h
      · rw [Nat.testBit_lt_two_pow (Nat.lt_of_lt_of_le hb (Nat.pow_le_pow_right (n := 2) (by decide) h))] at hj; simp at hj
    cases hf : Fld.first (b / 2 ^ m) 0 with
    | none =>
      have := Fld.first_none.1 hf j (by omega) (by have := hlt j hj; omega)
      rw [hj] at this; simp at this
    | some i =>
      obtain ⟨h1, _, h3, h4⟩ := Fld.first_spec hf
      refine ⟨i, h1, h3, fun j hj => h4 j (by omega) hj, hlt i h3, Fld.first_some (hlt i h3) (by omega) (by rw [← div_bit]; exact h3) fun j hn hj => ?_⟩
      obtain ⟨d, rfl⟩ : ∃ d, j = m + d := ⟨j - m, by omega⟩
      rw [← div_bit]
      exact h4 d (by omega) (by omega)
theorem first_far {b : Nat} {n : Int} (h : 64 ≤ n) : Fld.first b n = none := Fld.first_none.2 fun j hn hj => absurd hn (by omega)

end Go.Proofs.YtoghalmjbbkjhaaGreatDoor
