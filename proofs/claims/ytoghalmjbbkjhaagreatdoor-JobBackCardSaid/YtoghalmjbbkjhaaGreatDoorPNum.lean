/- Plain mathematics of layer 1: the bytes of a number, seven bits a byte, and what is taken of bytes. No program is spoken of here. -/
import Derived.Lib.EndianBits
import Derived.Lib.VarintBits
namespace Go.Proofs.YtoghalmjbbkjhaaGreatDoor.Num

/-- the bytes of n, fuel f: f + 1 bytes at the most -/
def enc : Nat → Nat → List Int
  | 0, n => [(n : Int)]
  | f + 1, n => if n < 128 then [(n : Int)] else ((n % 128 + 128 : Nat) : Int) :: enc f (n / 128)

theorem enc_ne (f n : Nat) : enc f n ≠ [] := by
  cases f with
  | zero => simp [enc]
  | succ f => unfold enc; split <;> simp

theorem enc_len : ∀ (f n : Nat), 1 ≤ (enc f n).length ∧ (enc f n).length ≤ f + 1
  | 0, n => by simp [enc]
  | f + 1, n => by
    unfold enc
    split
    · simp
    · have := enc_len f (n / 128); simp; omega

theorem enc_range : ∀ (f n : Nat), n < 128 ^ (f + 1) → ∀ x ∈ enc f n, 0 ≤ x ∧ x ≤ 255
  | 0, n, h => by intro x hx; simp [enc] at hx; subst hx; simp at h; omega
  | f + 1, n, h => by
    intro x hx
    unfold enc at hx
    split at hx
    · simp at hx; subst hx; omega
    · rcases List.mem_cons.1 hx with rfl | hx
      · have := Nat.mod_lt n (show 0 < 128 by decide); omega
      · exact enc_range f (n / 128) (by rw [Nat.pow_succ] at h; exact Nat.div_lt_of_lt_mul (by rw [Nat.mul_comm]; exact h)) x hx

theorem enc_small (f n : Nat) (h : n < 128) : enc f n = [(n : Int)] := by
  cases f with
  | zero => simp [enc]
  | succ f => simp [enc, h]

theorem enc_big (f n : Nat) (h : ¬ n < 128) : enc (f + 1) n = ((n % 128 + 128 : Nat) : Int) :: enc f (n / 128) := by
  simp [enc, h]

/-- more fuel gives the same -/
theorem enc_fuel : ∀ (f n : Nat), n < 128 ^ (f + 1) → enc (f + 1) n = enc f n
  | 0, n, h => by simp at h; simp [enc, h]
  | f + 1, n, h => by
    by_cases hn : n < 128
    · rw [enc_small _ _ hn, enc_small _ _ hn]
    · rw [enc_big _ _ hn, enc_big _ _ hn, enc_fuel f (n / 128) (by rw [Nat.pow_succ] at h; exact Nat.div_lt_of_lt_mul (by rw [Nat.mul_comm]; exact h))]

/-- a number's bytes -/
def put (n : Nat) : List Int := enc 9 n

theorem put_len (n : Nat) : 1 ≤ (put n).length ∧ (put n).length ≤ 10 := enc_len 9 n

/-- 'n & 127', 'n & 127 | 128' -/
theorem and127 (q : Nat) (h : q < 18446744073709551616) : bits .and .u64 (q : Int) 127 = (q : Int) % 128 := by
  have := bits_mask .u64 64 (by decide) wraps_u64 7 (by decide) (q : Int) (by omega) (by omega)
  rw [show (127 : Int) = 2 ^ 7 - 1 by decide, this]; omega
theorem or128 (q : Nat) : bits .or .u64 ((q : Int) % 128) 128 = (q : Int) % 128 + 128 :=
  u64_orv7 ((q : Int) % 128) 128 (by omega) (by omega) (by omega) (by omega) (by omega)

/-- the tenth byte is the last one -/
theorem top_small (n k : Nat) (hk : 9 ≤ k) (hn : n < 18446744073709551616) : n / 128 ^ k < 128 := by
  have h1 : (128 : Nat) ^ 9 ≤ 128 ^ k := Nat.pow_le_pow_right (by decide) hk
  have h2 : n / 128 ^ k ≤ n / 128 ^ 9 := Nat.div_le_div_left h1 (by decide)
  have h3 : n / 128 ^ 9 < 128 := by
    apply Nat.div_lt_of_lt_mul
    exact Nat.lt_of_lt_of_le hn (by decide)
  omega

theorem wrap_div (n : Nat) (h : n < 18446744073709551616) : IntKind.u64.wrap ((n : Int) / 128) = ((n / 128 : Nat) : Int) := by
  rw [IntKind.wrap_u64]; omega

/-- a whole number's number: twice it, or twice its opposite less 1 -/
def zig (m : Int) : Nat := if 0 ≤ m then (2 * m).toNat else (-2 * m - 1).toNat
theorem zig_lt {m : Int} (h0 : -9223372036854775808 ≤ m) (h1 : m ≤ 9223372036854775807) : zig m < 18446744073709551616 := by
  unfold zig; split <;> omega
theorem zig_pos {m : Int} (h : 0 ≤ m) : ((zig m : Nat) : Int) = 2 * m := by unfold zig; rw [if_pos h]; omega
theorem zig_neg {m : Int} (h : m < 0) : ((zig m : Nat) : Int) = -2 * m - 1 := by unfold zig; rw [if_neg (by omega)]; omega
/-- 'x << 1 | 1' -/
theorem or1 (x : Int) (h0 : 0 ≤ x) (hx : x % 2 = 0) (h1 : x < 18446744073709551616) : bits .or .u64 x 1 = x + 1 :=
  bits_join .u64 64 (by decide) wraps_u64 1 x 1 h0 (by omega) h1 (by omega) (by omega) (by omega)

/-- what is taken of the bytes l, from the k-th byte of the number on, fuel f: the number, and how many bytes it has -/
def dec : Nat → Nat → Nat → List Int → Option (Nat × Nat)
  | 0, _, _, _ => none
  | _ + 1, _, _, [] => none
  | f + 1, k, acc, c :: r =>
    if c = 0 ∧ 0 < k then none
    else if 9 ≤ k ∧ 1 < c then none
    else if c < 128 then some (acc + c.toNat * 128 ^ k, k + 1)
    else dec f (k + 1) (acc + c.toNat % 128 * 128 ^ k) r

theorem dec_nil (f k acc : Nat) : dec f k acc [] = none := by cases f <;> rfl
theorem dec_zero {f k acc : Nat} {c : Int} {r : List Int} (h : c = 0) (hk : 0 < k) : dec (f + 1) k acc (c :: r) = none := by simp [dec, h, hk]
theorem dec_tenth {f k acc : Nat} {c : Int} {r : List Int} (h : 1 < c) (hk : 9 ≤ k) : dec (f + 1) k acc (c :: r) = none := by
  have : ¬ c = 0 := by omega
  simp [dec, h, hk, this]
theorem dec_last {f k acc : Nat} {c : Int} {r : List Int} (h1 : ¬ (c = 0 ∧ 0 < k)) (h2 : ¬ (9 ≤ k ∧ 1 < c)) (h3 : c < 128) : dec (f + 1) k acc (c :: r) = some (acc + c.toNat * 128 ^ k, k + 1) := by
  simp only [dec, if_neg h1, if_neg h2, if_pos h3]
theorem dec_more {f k acc : Nat} {c : Int} {r : List Int} (h1 : ¬ (c = 0 ∧ 0 < k)) (h2 : ¬ (9 ≤ k ∧ 1 < c)) (h3 : ¬ c < 128) : dec (f + 1) k acc (c :: r) = dec f (k + 1) (acc + c.toNat % 128 * 128 ^ k) r := by
  simp only [dec, if_neg h1, if_neg h2, if_neg h3]

theorem pow128 (k : Nat) : (2 : Int) ^ (7 * k) = ((128 ^ k : Nat) : Int) := by
  rw [Int.pow_mul]; norm_cast

/-- 'n |= uint64(c&127) << shift' -/
theorem join_acc (acc k : Nat) (c : Int) (hacc : acc < 128 ^ k) (hk : k ≤ 9) (h0 : 0 ≤ c) (h1 : c ≤ 255) (h9 : ¬ (9 ≤ k ∧ 1 < c)) :
    bits .or .u64 (acc : Int) (IntKind.u64.wrap (c % 128 * 2 ^ (7 * k))) = ((acc + c.toNat % 128 * 128 ^ k : Nat) : Int) ∧ acc + c.toNat % 128 * 128 ^ k < 128 ^ (k + 1) := by
  obtain ⟨x, hx⟩ : ∃ x : Nat, c.toNat % 128 = x ∧ x < 128 := ⟨_, rfl, Nat.mod_lt _ (by decide)⟩
  have ex : c % 128 = (x : Int) := by omega
  have hle : 128 ^ k ≤ 128 ^ 9 := Nat.pow_le_pow_right (by decide) hk
  have hbig : x * 128 ^ k < 18446744073709551616 := by
    by_cases h : k = 9
    · have : x ≤ 1 := by omega
      subst h
      calc x * 128 ^ 9 ≤ 1 * 128 ^ 9 := Nat.mul_le_mul_right _ this
        _ < 18446744073709551616 := by decide
    · have h8 : 128 ^ k ≤ 128 ^ 8 := Nat.pow_le_pow_right (by decide) (by omega)
      calc x * 128 ^ k ≤ 127 * 128 ^ 8 := Nat.mul_le_mul (by omega) h8
        _ < 18446744073709551616 := by decide
  rw [hx.1, ex, pow128]
  have e : (x : Int) * ((128 ^ k : Nat) : Int) = ((x * 128 ^ k : Nat) : Int) := by norm_cast
  rw [e, IntKind.wrap_u64, show ((x * 128 ^ k : Nat) : Int) % 18446744073709551616 = ((x * 128 ^ k : Nat) : Int) by omega]
  have hacc2 : acc < 18446744073709551616 := Nat.lt_of_lt_of_le hacc (Nat.le_trans hle (by decide))
  refine ⟨?_, ?_⟩
  · rw [bits_join_low .u64 64 (by decide) wraps_u64 (7 * k) (acc : Int) ((x * 128 ^ k : Nat) : Int) (by omega) (by rw [pow128]; exact_mod_cast hacc) (by omega) (by omega)
      (by rw [pow128]; norm_cast; exact Nat.mul_mod_left _ _) (by omega)]
    norm_cast
  · rw [Nat.pow_succ]
    have : x * 128 ^ k ≤ 127 * 128 ^ k := Nat.mul_le_mul_right _ (by omega)
    omega

/-- n is q in the places from k on, with acc below: bytes of q are taken as n -/
theorem dec_enc : ∀ (f k acc q : Nat) (rest : List Int), k + f = 9 → q < 128 ^ (f + 1) → (k = 9 → q ≤ 1) → (f + k = 9 → 0 < k → 0 < q) → (∀ j, j ≤ f → j + k = 9 → q / 128 ^ j ≤ 1) →
    dec (f + 1) k acc (enc f q ++ rest) = some (acc + q * 128 ^ k, k + (enc f q).length)
  | 0, k, acc, q, rest, hf, hq, h9, hpos, _ => by
    have h1 := h9 (by omega)
    simp only [enc, List.cons_append, List.nil_append, List.length_cons, List.length_nil]
    rw [dec_last (fun h => by have := hpos (by omega) h.2; omega) (fun h => by omega) (by omega)]
    simp
  | f + 1, k, acc, q, rest, hf, hq, h9, hpos, htop => by
    by_cases hb : q < 128
    · rw [enc_small _ _ hb]
      simp only [List.cons_append, List.nil_append, List.length_cons, List.length_nil]
      rw [dec_last (fun h => by have := hpos (by omega) h.2; omega) (fun h => by omega) (by omega)]
      simp
    · rw [enc_big _ _ hb, List.cons_append, dec_more (fun h => by omega) (fun h => by omega) (by omega)]
      have hd : q / 128 < 128 ^ (f + 1) := by rw [Nat.pow_succ] at hq; exact Nat.div_lt_of_lt_mul (by rw [Nat.mul_comm]; exact hq)
      rw [dec_enc f (k + 1) _ (q / 128) rest (by omega) hd (fun h => by have := htop 1 (by omega) (by omega); simpa using this) (fun _ _ => by omega)
        (fun j hj hk => by have := htop (j + 1) (by omega) (by omega); rw [Nat.pow_succ, Nat.mul_comm, ← Nat.div_div_eq_div_mul] at this; exact this)]
      have e1 : ((q % 128 + 128 : Nat) : Int).toNat % 128 = q % 128 := by omega
      rw [e1]
      simp only [List.length_cons, Option.some.injEq, Prod.mk.injEq]
      refine ⟨?_, by omega⟩
      rw [Nat.pow_succ, Nat.add_assoc]
      congr 1
      have := Nat.mod_add_div q 128
      calc q % 128 * 128 ^ k + q / 128 * (128 ^ k * 128) = (q % 128 + 128 * (q / 128)) * 128 ^ k := by
            rw [Nat.add_mul, Nat.mul_comm (128 ^ k) 128, ← Nat.mul_assoc, Nat.mul_comm (q / 128) 128]
        _ = q * 128 ^ k := by rw [this]

/-- what was put is taken again, whatever stands behind -/
theorem dec_put (n : Nat) (hn : n < 18446744073709551616) (rest : List Int) : dec 10 0 0 (put n ++ rest) = some (n, (put n).length) := by
  have h := dec_enc 9 0 0 n rest (by omega) (Nat.lt_of_lt_of_le hn (by decide)) (by omega) (by omega) (fun j _ hk => by
    obtain rfl : j = 9 := by omega
    have : n / 128 ^ 9 < 2 := Nat.div_lt_of_lt_mul (Nat.lt_of_lt_of_le hn (by decide))
    omega)
  simpa [put] using h

/-- cut within it nothing is taken -/
theorem dec_cut : ∀ (f k acc q j : Nat), j < (enc f q).length → dec (f + 1) k acc ((enc f q).take j) = none
  | 0, k, acc, q, j, hj => by
    simp [enc] at hj
    subst hj
    rfl
  | f + 1, k, acc, q, j, hj => by
    by_cases hb : q < 128
    · rw [enc_small _ _ hb] at hj ⊢
      simp at hj
      subst hj
      rfl
    · rw [enc_big _ _ hb] at hj ⊢
      cases j with
      | zero => rfl
      | succ j =>
        rw [List.take_succ_cons]
        by_cases h1 : ((q % 128 + 128 : Nat) : Int) = 0 ∧ 0 < k
        · exact dec_zero h1.1 h1.2
        · by_cases h2 : 9 ≤ k ∧ 1 < ((q % 128 + 128 : Nat) : Int)
          · exact dec_tenth h2.2 h2.1
          · rw [dec_more h1 h2 (by omega)]
            exact dec_cut f (k + 1) _ (q / 128) j (by simpa using hj)

theorem dec_put_cut (n j : Nat) (hj : j < (put n).length) : dec 10 0 0 ((put n).take j) = none := dec_cut 9 0 0 n j hj

/-- the whole number of a number -/
def unzig (n : Nat) : Int := if n % 2 = 0 then (n : Int) / 2 else -((n : Int) / 2) - 1
theorem unzig_zig (m : Int) : unzig (zig m) = m := by
  unfold unzig zig
  split <;> split <;> omega

theorem and1 (n : Nat) (h : n < 18446744073709551616) : bits .and .u64 (n : Int) 1 = (n : Int) % 2 := by
  have := bits_mask .u64 64 (by decide) wraps_u64 1 (by decide) (n : Int) (by omega) (by omega)
  rw [show (1 : Int) = 2 ^ 1 - 1 by decide, this]; omega

theorem dec_lt : ∀ (f k acc : Nat) (l : List Int) (n j : Nat), k + f = 10 → acc < 128 ^ k → (∀ x ∈ l, 0 ≤ x ∧ x ≤ 255) → dec f k acc l = some (n, j) → n < 18446744073709551616 ∧ k < j ∧ j ≤ k + l.length
  | 0, _, _, _, _, _, _, _, _, h => by simp [dec] at h
  | _ + 1, _, _, [], _, _, _, _, _, h => by simp [dec] at h
  | f + 1, k, acc, c :: r, n, j, hf, hacc, hr, h => by
    have hc := hr c (by simp)
    by_cases h1 : c = 0 ∧ 0 < k
    · rw [dec_zero h1.1 h1.2] at h; cases h
    · by_cases h2 : 9 ≤ k ∧ 1 < c
      · rw [dec_tenth h2.2 h2.1] at h; cases h
      · have hk9 : k ≤ 9 := by omega
        have hj := (join_acc acc k c hacc hk9 hc.1 hc.2 h2).2
        by_cases h3 : c < 128
        · rw [dec_last h1 h2 h3] at h
          simp only [Option.some.injEq, Prod.mk.injEq] at h
          obtain ⟨rfl, rfl⟩ := h
          refine ⟨?_, by omega, by simp⟩
          by_cases h9 : k = 9
          · have h1' : c.toNat ≤ 1 := by omega
            have h7 : c.toNat * 128 ^ k ≤ 1 * 128 ^ k := Nat.mul_le_mul_right _ h1'
            have h6 : (128 : Nat) ^ k = 9223372036854775808 := by rw [h9]
            rw [h6] at h7 hacc ⊢
            clear hj h6
            omega
          · have e : c.toNat % 128 = c.toNat := Nat.mod_eq_of_lt (by omega)
            rw [e] at hj
            have h8 : 128 ^ (k + 1) ≤ 9223372036854775808 := Nat.le_trans (Nat.pow_le_pow_right (by decide) (show k + 1 ≤ 9 by omega)) (by decide)
            exact Nat.lt_of_lt_of_le hj (Nat.le_trans h8 (by decide))
        · rw [dec_more h1 h2 h3] at h
          by_cases h9 : k = 9
          · exact absurd ⟨by omega, by omega⟩ h2
          · have := dec_lt f (k + 1) _ r n j (by omega) hj (fun x hx => hr x (by simp [hx])) h
            refine ⟨this.1, by omega, by simp; omega⟩

end Go.Proofs.YtoghalmjbbkjhaaGreatDoor.Num
