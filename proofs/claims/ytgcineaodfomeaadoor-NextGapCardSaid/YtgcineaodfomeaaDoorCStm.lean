/- Moments and clocks: the mathematics. No model in this text. -/
import Derived.Test.YtgcineaodfomeaaDoorCOfMath
import Derived.Lib.ItoaNum
namespace Go.Proofs.YtgcineaodfomeaaDoor.Stm

/-- which clocks may be -/
def may (y m d h i s k : Int) : Prop := Cal.may y m d ∧ 0 ≤ h ∧ h < 24 ∧ 0 ≤ i ∧ i < 60 ∧ 0 ≤ s ∧ s < 60 ∧ k = Cal.week (Cal.num y m d)
instance (y m d h i s k : Int) : Decidable (may y m d h i s k) := by unfold may; exact inferInstance
/-- a clock's moment -/
def num (y m d h i s : Int) : Int := Cal.num y m d * 86400 + h * 3600 + i * 60 + s

theorem num_range {y m d h i s k : Int} (hm : may y m d h i s k) : 0 ≤ num y m d h i s ∧ num y m d h i s < 13569465600 := by
  obtain ⟨h1, h2, h3, h4, h5, h6, h7, -⟩ := hm
  have := Cal.num_range h1
  unfold num
  omega
theorem onto (t : Int) (h0 : 0 ≤ t) (h1 : t < 13569465600) : ∃ y m d h i s k, may y m d h i s k ∧ num y m d h i s = t := by
  obtain ⟨y, m, d, hm, hn⟩ := Cal.num_onto (t / 86400) (by omega) (by omega)
  refine ⟨y, m, d, t / 3600 % 24, t / 60 % 60, t % 60, Cal.week (Cal.num y m d), ⟨hm, by omega, by omega, by omega, by omega, by omega, by omega, rfl⟩, ?_⟩
  unfold num
  rw [hn]
  omega
theorem parts {y m d h i s k : Int} (hm : may y m d h i s k) :
    num y m d h i s / 86400 = Cal.num y m d ∧ num y m d h i s % 86400 = h * 3600 + i * 60 + s ∧ (h * 3600 + i * 60 + s) / 3600 = h ∧ (h * 3600 + i * 60 + s) % 3600 = i * 60 + s ∧
    (i * 60 + s) / 60 = i ∧ (h * 3600 + i * 60 + s) % 60 = s ∧ num y m d h i s % 60 = s ∧ num y m d h i s / 60 % 60 = i ∧ num y m d h i s / 3600 % 24 = h := by
  obtain ⟨h1, h2, h3, h4, h5, h6, h7, -⟩ := hm
  have := Cal.num_range h1
  unfold num
  omega
theorem inj {y m d h i s k y' m' d' h' i' s' k' : Int} (hm : may y m d h i s k) (hm' : may y' m' d' h' i' s' k') (he : num y m d h i s = num y' m' d' h' i' s') :
    y = y' ∧ m = m' ∧ d = d' ∧ h = h' ∧ i = i' ∧ s = s' ∧ k = k' := by
  have p := parts hm
  have p' := parts hm'
  rw [he] at p
  have hn : Cal.num y m d = Cal.num y' m' d' := by omega
  obtain ⟨rfl, rfl, rfl⟩ := Cal.num_inj hm.1 hm'.1 hn
  have hk := hm.2.2.2.2.2.2.2
  have hk' := hm'.2.2.2.2.2.2.2
  refine ⟨rfl, rfl, rfl, ?_, ?_, ?_, ?_⟩ <;> omega

/-! texts -/
/-- a number's digits, so many -/
def dig : Nat → Nat → List UInt8
  | 0, _ => []
  | k + 1, n => dig k (n / 10) ++ [UInt8.ofNat (48 + n % 10)]
theorem dig_length (k n : Nat) : (dig k n).length = k := by
  induction k generalizing n with
  | zero => rfl
  | succ k ih => simp [dig, ih]
theorem dig_dec : ∀ (k n : Nat), 10 ^ k ≤ n → n < 10 ^ (k + 1) → Lib.decDigits n = dig (k + 1) n
  | 0, n, _, h => by
    have h : n < 10 := by simpa using h
    rw [Lib.decDigits_one h]
    simp only [dig, List.nil_append]
    rw [Nat.mod_eq_of_lt h]
  | k + 1, n, h0, h => by
    rw [Nat.pow_succ] at h0
    rw [Nat.pow_succ] at h
    have h10 : ¬ n < 10 := by have := Nat.one_le_two_pow (n := k); have : 1 ≤ 10 ^ k := Nat.one_le_pow _ _ (by decide); omega
    rw [Lib.decDigits, dif_neg h10, dig_dec k (n / 10) (by omega) (by omega)]
    rfl
/-- a clock's text -/
def txt (y m d h i s : Int) : List UInt8 :=
  dig 4 y.toNat ++ 45 :: (dig 2 m.toNat ++ 45 :: (dig 2 d.toNat ++ 84 :: (dig 2 h.toNat ++ 58 :: (dig 2 i.toNat ++ 58 :: dig 2 s.toNat))))
theorem txt_length (y m d h i s : Int) : (txt y m d h i s).length = 19 := by
  simp [txt, dig_length]
end Go.Proofs.YtgcineaodfomeaaDoor.Stm
