/- Texts of clocks are in order as their moments are: the mathematics. -/
import Derived.Test.YtpafjdbckbhcoaaDoorStm
import Derived.WalkKit
namespace Go.Proofs.YtpafjdbckbhcoaaDoor.Stm

theorem less_cons (c e : UInt8) (x y : List UInt8) : Op.bytesLess (c :: x) (e :: y) = true ↔ c < e ∨ (c = e ∧ Op.bytesLess x y = true) := by
  simp [Op.bytesLess]
theorem digit_lt {a b : Nat} (ha : a < 10) (hb : b < 10) : (UInt8.ofNat (48 + a) < UInt8.ofNat (48 + b) ↔ a < b) ∧ (UInt8.ofNat (48 + a) = UInt8.ofNat (48 + b) ↔ a = b) := by
  have ea : (UInt8.ofNat (48 + a)).toNat = 48 + a := by rw [UInt8.toNat_ofNat']; omega
  have eb : (UInt8.ofNat (48 + b)).toNat = 48 + b := by rw [UInt8.toNat_ofNat']; omega
  constructor
  · rw [UInt8.lt_iff_toNat_lt, ea, eb]
    omega
  · rw [← UInt8.toNat_inj, ea, eb]
    omega
theorem less_dig : ∀ (k a b : Nat) (x y : List UInt8), a < 10 ^ k → b < 10 ^ k → (Op.bytesLess (dig k a ++ x) (dig k b ++ y) = true ↔ a < b ∨ (a = b ∧ Op.bytesLess x y = true))
  | 0, a, b, x, y, ha, hb => by
    have ha : a < 1 := ha
    have hb : b < 1 := hb
    simp only [dig, List.nil_append]
    constructor
    · intro h
      exact Or.inr ⟨by omega, h⟩
    · rintro (h | ⟨-, h⟩)
      · omega
      · exact h
  | k + 1, a, b, x, y, ha, hb => by
    rw [Nat.pow_succ] at ha hb
    have ih := less_dig k (a / 10) (b / 10) (UInt8.ofNat (48 + a % 10) :: x) (UInt8.ofNat (48 + b % 10) :: y) (by omega) (by omega)
    have hd := digit_lt (a := a % 10) (b := b % 10) (by omega) (by omega)
    simp only [dig, List.append_assoc, List.cons_append, List.nil_append]
    rw [ih, less_cons, hd.1, hd.2]
    constructor
    · rintro (h | ⟨h, h' | ⟨h', hl⟩⟩)
      · exact Or.inl (by omega)
      · exact Or.inl (by omega)
      · exact Or.inr ⟨by omega, hl⟩
    · rintro (h | ⟨rfl, h⟩)
      · by_cases he : a / 10 < b / 10
        · exact Or.inl he
        · exact Or.inr ⟨by omega, Or.inl (by omega)⟩
      · exact Or.inr ⟨rfl, Or.inr ⟨rfl, h⟩⟩
theorem less_dig_cons (k a b : Nat) (c : UInt8) (x y : List UInt8) (ha : a < 10 ^ k) (hb : b < 10 ^ k) : Op.bytesLess (dig k a ++ c :: x) (dig k b ++ c :: y) = true ↔ a < b ∨ (a = b ∧ Op.bytesLess x y = true) := by
  rw [less_dig k a b _ _ ha hb, less_cons]
  constructor
  · rintro (h | ⟨h, h' | ⟨-, h'⟩⟩)
    · exact Or.inl h
    · exact absurd h' (by rw [UInt8.lt_iff_toNat_lt]; omega)
    · exact Or.inr ⟨h, h'⟩
  · rintro (h | ⟨h, h'⟩)
    · exact Or.inl h
    · exact Or.inr ⟨h, Or.inr ⟨rfl, h'⟩⟩
theorem less_end (k a b : Nat) (ha : a < 10 ^ k) (hb : b < 10 ^ k) : Op.bytesLess (dig k a) (dig k b) = true ↔ a < b := by
  have := less_dig k a b [] [] ha hb
  simp only [List.append_nil] at this
  rw [this]
  constructor
  · rintro (h | ⟨-, h⟩)
    · exact h
    · simp [Op.bytesLess] at h
  · exact Or.inl

theorem txt_less {y m d h i s k y' m' d' h' i' s' k' : Int} (hm : may y m d h i s k) (hm' : may y' m' d' h' i' s' k') :
    Op.bytesLess (txt y m d h i s) (txt y' m' d' h' i' s') = decide (num y m d h i s < num y' m' d' h' i' s') := by
  rw [Bool.eq_iff_iff, decide_eq_true_iff]
  have hc := Cal.num_lt hm.1 hm'.1
  have hc' := Cal.num_lt hm'.1 hm.1
  have hi : y = y' → m = m' → d = d' → Cal.num y m d = Cal.num y' m' d' := by rintro rfl rfl rfl; rfl
  have h12 := Cal.may_month hm.1
  have h12' := Cal.may_month hm'.1
  have hl := (Cal.long_pos (y := y) h12).2
  have hl' := (Cal.long_pos (y := y') h12').2
  obtain ⟨⟨a1, a2, a3, a4⟩, b1, b2, c1, c2, d1, d2, -⟩ := hm
  obtain ⟨⟨a1', a2', a3', a4'⟩, b1', b2', c1', c2', d1', d2', -⟩ := hm'
  unfold txt num
  rw [less_dig_cons _ _ _ _ _ _ (by omega) (by omega), less_dig_cons _ _ _ _ _ _ (by omega) (by omega), less_dig_cons _ _ _ _ _ _ (by omega) (by omega), less_dig_cons _ _ _ _ _ _ (by omega) (by omega), less_dig_cons _ _ _ _ _ _ (by omega) (by omega), less_end _ _ _ (by omega) (by omega)]
  unfold Cal.less at hc hc'
  generalize Cal.num y m d = n at *
  generalize Cal.num y' m' d' = n' at *
  generalize Cal.long y m = l at *
  generalize Cal.long y' m' = l' at *
  by_cases e1 : y = y' ∧ m = m' ∧ d = d'
  · have := hi e1.1 e1.2.1 e1.2.2
    omega
  · by_cases e2 : n < n'
    · have := hc.1 e2
      omega
    · by_cases e3 : n' < n
      · have := hc'.1 e3
        omega
      · exfalso
        have h1 : ¬ (y < y' ∨ y = y' ∧ (m < m' ∨ m = m' ∧ d < d')) := fun h => e2 (hc.2 h)
        have h2 : ¬ (y' < y ∨ y' = y ∧ (m' < m ∨ m' = m ∧ d' < d)) := fun h => e3 (hc'.2 h)
        omega

/-- a clock of which one number was changed is another moment's -/
theorem other {y m d h i s k y' m' d' h' i' s' k' : Int} (hm : may y m d h i s k) (hm' : may y' m' d' h' i' s' k') (hne : ¬ (d = d' ∧ h = h' ∧ i = i' ∧ s = s')) : num y' m' d' h' i' s' ≠ num y m d h i s := by
  intro he
  obtain ⟨-, -, hd, hh, hi, hs, -⟩ := inj hm hm' he.symm
  exact hne ⟨hd, hh, hi, hs⟩
end Go.Proofs.YtpafjdbckbhcoaaDoor.Stm
