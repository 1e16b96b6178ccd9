/- Plain mathematics: the reference's way of taking a number: it adds, and holds against what Put makes. No program is spoken of here. -/
import Derived.Test.YtjpbniajhkindaaFrames
namespace Go.Proofs.Ytjpbniajhkindaa.Num

/-- what the first k bytes add up to -/
def val (l : List Int) : Nat → Nat
  | 0 => 0
  | k + 1 => val l k + (l.getD k 0).toNat % 128 * 128 ^ k

theorem val_cons (c : Int) (r : List Int) (k : Nat) : val (c :: r) (k + 1) = c.toNat % 128 + 128 * val r k := by
  induction k with
  | zero => simp [val]
  | succ k ih =>
    rw [val, ih, val, List.getD_cons_succ, Nat.pow_succ, Nat.mul_add, Nat.add_assoc]
    congr 2
    rw [Nat.mul_comm (128 ^ k) 128, ← Nat.mul_assoc, ← Nat.mul_assoc]
    congr 1
    exact Nat.mul_comm _ _

theorem val_enc : ∀ (f n : Nat) (rest : List Int), n < 128 ^ (f + 1) → val (enc f n ++ rest) (enc f n).length = n
  | 0, n, rest, h => by
    simp at h
    simp [enc, val]
    omega
  | f + 1, n, rest, h => by
    by_cases hn : n < 128
    · rw [enc_small _ _ hn]
      simp [val]
      omega
    · rw [enc_big _ _ hn, List.cons_append, List.length_cons, val_cons, val_enc f (n / 128) rest (by rw [Nat.pow_succ] at h; exact Nat.div_lt_of_lt_mul (by rw [Nat.mul_comm]; exact h))]
      have e : (((n % 128 + 128 : Nat) : Int)).toNat % 128 = n % 128 := by omega
      rw [e]
      omega

/-- only the last byte is below 128 -/
theorem enc_shape : ∀ (f n : Nat), n < 128 ^ (f + 1) → (∀ i, i + 1 < (enc f n).length → 128 ≤ (enc f n).getD i 0) ∧ (enc f n).getD ((enc f n).length - 1) 0 < 128
  | 0, n, h => by
    simp at h
    simp [enc]
    omega
  | f + 1, n, h => by
    by_cases hn : n < 128
    · rw [enc_small _ _ hn]
      simp
      omega
    · rw [enc_big _ _ hn]
      have ih := enc_shape f (n / 128) (by rw [Nat.pow_succ] at h; exact Nat.div_lt_of_lt_mul (by rw [Nat.mul_comm]; exact h))
      have hl := (enc_len f (n / 128)).1
      refine ⟨fun i hi => ?_, ?_⟩
      · cases i with
        | zero => simp; omega
        | succ i =>
          rw [List.getD_cons_succ]
          exact ih.1 i (by simpa using hi)
      · rw [List.length_cons, show (enc f (n / 128)).length + 1 - 1 = ((enc f (n / 128)).length - 1) + 1 by omega, List.getD_cons_succ]
        exact ih.2

theorem dec_where {l : List Int} {n j : Nat} (hr : ∀ x ∈ l, 0 ≤ x ∧ x ≤ 255) (h : dec 10 0 0 l = some (n, j)) :
    val l j = n ∧ 1 ≤ j ∧ j ≤ 10 ∧ j ≤ l.length ∧ (∀ i, i + 1 < j → 128 ≤ l.getD i 0) ∧ l.getD (j - 1) 0 < 128 ∧ n < 18446744073709551616 ∧ l.take j = put n := by
  obtain ⟨ht, hj⟩ := dec_is hr h
  obtain ⟨h1, h2, h3⟩ := dec_lt 10 0 0 l n j (by omega) (by simp) hr h
  have hl := put_len n
  have hb : n < 128 ^ (9 + 1) := Nat.lt_of_lt_of_le h1 (by decide)
  have e := List.take_append_drop j l
  rw [ht] at e
  have hs := enc_shape 9 n hb
  have hg : ∀ i, i < j → l.getD i 0 = (put n).getD i 0 := fun i hi => by
    rw [← e]
    simp only [List.getD]
    rw [List.getElem?_append_left (by omega)]
  refine ⟨?_, by omega, by omega, by omega, fun i hi => ?_, ?_, h1, ht⟩
  · rw [← e, hj]
    exact val_enc 9 n _ hb
  · rw [hg i (by omega)]
    exact hs.1 i (by unfold put at hj; omega)
  · rw [hg (j - 1) (by omega), hj]
    exact hs.2

theorem dec_tail {l : List Int} {k : Nat} (hr : ∀ x ∈ l, 0 ≤ x ∧ x ≤ 255) (hk : ∀ i, i < k → 128 ≤ l.getD i 0) (he : l.length ≤ k ∨ 10 ≤ k) : dec 10 0 0 l = none := by
  cases h : dec 10 0 0 l with
  | none => rfl
  | some p =>
    obtain ⟨n, j⟩ := p
    obtain ⟨_, h1, h2, h3, _, h5, _⟩ := dec_where hr h
    have := hk (j - 1) (by omega)
    omega

theorem dec_stop {l : List Int} {k n : Nat} (hr : ∀ x ∈ l, 0 ≤ x ∧ x ≤ 255) (hk : ∀ i, i < k → 128 ≤ l.getD i 0) (hc : l.getD k 0 < 128) (hkl : k < l.length) (hn : n = val l (k + 1) % 18446744073709551616) :
    dec 10 0 0 l = if put n = l.take (k + 1) then some (n, k + 1) else none := by
  split
  · next ht =>
    have e := List.take_append_drop (k + 1) l
    rw [← ht] at e
    have h := dec_put n (by omega) (l.drop (k + 1))
    rw [e] at h
    rw [h, ht, List.length_take]
    congr 2
    omega
  · next ht =>
    cases h : dec 10 0 0 l with
    | none => rfl
    | some p =>
      obtain ⟨m, j⟩ := p
      obtain ⟨h0, h1, h2, h3, h4, h5, h6, h7⟩ := dec_where hr h
      have hj : j = k + 1 := by
        rcases Nat.lt_trichotomy (j - 1) k with h' | h' | h'
        · have := hk (j - 1) h'
          omega
        · omega
        · have := h4 k (by omega)
          omega
      subst hj
      rw [h0, Nat.mod_eq_of_lt h6] at hn
      subst hn
      exact absurd h7.symm ht

theorem weight_next (q k : Nat) (h : q = 128 ^ k % 18446744073709551616) : q * 128 % 18446744073709551616 = 128 ^ (k + 1) % 18446744073709551616 := by
  rw [h, Nat.pow_succ, Nat.mod_mul_mod]
theorem val_next (l : List Int) (n q z k : Nat) (hn : n = val l k % 18446744073709551616) (hq : q = 128 ^ k % 18446744073709551616) (hz : (l.getD k 0).toNat = z) :
    (n + z % 128 * q % 18446744073709551616) % 18446744073709551616 = val l (k + 1) % 18446744073709551616 := by
  rw [val, hz, hn, hq]
  have h1 : z % 128 * (128 ^ k % 18446744073709551616) % 18446744073709551616 = z % 128 * 128 ^ k % 18446744073709551616 := by rw [Nat.mul_mod_mod]
  rw [h1, ← Nat.add_mod]

end Go.Proofs.Ytjpbniajhkindaa.Num
