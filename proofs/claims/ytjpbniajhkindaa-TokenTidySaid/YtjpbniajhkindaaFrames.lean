/- Plain mathematics of layer 3: a record's frame, and which frame bytes begin with. No program is spoken of here. -/
import Derived.Test.YtjpbniajhkindaaNum
import Derived.Test.YtjpbniajhkindaaCrc
namespace Go.Proofs.Ytjpbniajhkindaa
open Num (dec enc put)

/-- what is taken as a number are that number's bytes -/
theorem Num.dec_back : ∀ (f k acc : Nat) (l : List Int) (n j : Nat), (∀ x ∈ l, 0 ≤ x ∧ x ≤ 255) → dec (f + 1) k acc l = some (n, j) →
    ∃ q, n = acc + q * 128 ^ k ∧ l.take (j - k) = enc f q ∧ j = k + (enc f q).length ∧ (0 < k → 0 < q)
  | _, _, _, [], _, _, _, h => by simp [dec] at h
  | f, k, acc, c :: r, n, j, hr, h => by
    have hc := hr c (by simp)
    by_cases h1 : c = 0 ∧ 0 < k
    · rw [Num.dec_zero h1.1 h1.2] at h; cases h
    · by_cases h2 : 9 ≤ k ∧ 1 < c
      · rw [Num.dec_tenth h2.2 h2.1] at h; cases h
      · by_cases h3 : c < 128
        · rw [Num.dec_last h1 h2 h3] at h
          simp only [Option.some.injEq, Prod.mk.injEq] at h
          obtain ⟨rfl, rfl⟩ := h
          refine ⟨c.toNat, rfl, ?_, ?_, fun hk => by omega⟩
          · rw [Num.enc_small _ _ (by omega), show k + 1 - k = 1 by omega]
            simp
            omega
          · rw [Num.enc_small _ _ (by omega)]; rfl
        · rw [Num.dec_more h1 h2 h3] at h
          cases f with
          | zero => simp [dec] at h
          | succ f =>
            obtain ⟨q, hn, ht, hj, hq⟩ := Num.dec_back f (k + 1) _ r n j (fun x hx => hr x (by simp [hx])) h
            have hq0 := hq (by omega)
            have hb : ¬ (c.toNat % 128 + 128 * q) < 128 := by omega
            have e1 : (c.toNat % 128 + 128 * q) / 128 = q := by omega
            have e2 : (((c.toNat % 128 + 128 * q) % 128 + 128 : Nat) : Int) = c := by omega
            refine ⟨c.toNat % 128 + 128 * q, ?_, ?_, ?_, fun _ => by omega⟩
            · rw [hn, Nat.pow_succ, Nat.add_mul, Nat.add_assoc]
              congr 2
              rw [Nat.mul_comm 128 q, Nat.mul_assoc, Nat.mul_comm 128 (128 ^ k)]
            · rw [Num.enc_big _ _ hb, e1, e2]
              obtain ⟨i, hi⟩ : ∃ i, j - k = i + 1 := ⟨j - k - 1, by omega⟩
              rw [hi, List.take_succ_cons, show i = j - (k + 1) by omega, ht]
            · rw [Num.enc_big _ _ hb, e1, List.length_cons]; omega

theorem Num.dec_is {l : List Int} {n j : Nat} (hr : ∀ x ∈ l, 0 ≤ x ∧ x ≤ 255) (h : dec 10 0 0 l = some (n, j)) : l.take j = put n ∧ j = (put n).length := by
  obtain ⟨q, hn, ht, hj, _⟩ := Num.dec_back 9 0 0 l n j hr h
  obtain rfl : n = q := by simpa using hn
  exact ⟨by simpa [put] using ht, by simpa [put] using hj⟩

namespace Frame

/-- four bytes, the lowest one first -/
def le4 (c : Nat) : List Int := [((c % 256 : Nat) : Int), ((c / 256 % 256 : Nat) : Int), ((c / 65536 % 256 : Nat) : Int), ((c / 16777216 : Nat) : Int)]
theorem le4_len (c : Nat) : (le4 c).length = 4 := rfl
theorem le4_inj {a b : Nat} (h : le4 a = le4 b) : a = b := by
  simp only [le4, List.cons.injEq, and_true] at h
  omega
theorem le4_range {c : Nat} (hc : c < 4294967296) : ∀ x ∈ le4 c, 0 ≤ x ∧ x ≤ 255 := by
  intro x hx
  simp only [le4, List.mem_cons, List.not_mem_nil, or_false] at hx
  rcases hx with rfl | rfl | rfl | rfl <;> omega

def txt (zs : List Int) : List Int := put zs.length ++ zs
def tail (t : List Int) : List Int := le4 (Crc.mask (Crc.crc t))
def frameOf (zs : List Int) : List Int := 90 :: (txt zs ++ tail (txt zs))

theorem txt_len (zs : List Int) : (txt zs).length = (put zs.length).length + zs.length := by simp [txt]
theorem tail_len (t : List Int) : (tail t).length = 4 := rfl
theorem frame_len (zs : List Int) : (frameOf zs).length = 1 + (put zs.length).length + zs.length + 4 := by
  simp [frameOf, txt_len, tail_len]; omega

/-- the record that bytes begin with, and how many bytes its frame has -/
def firstOf (bs : List Int) : Option (List Int × Nat) :=
  match bs with
  | [] => none
  | h :: r =>
    if h = 90 then
      match dec 10 0 0 r with
      | none => none
      | some (n, k) => if n ≤ 4096 ∧ k + n + 4 ≤ r.length ∧ (r.drop (k + n)).take 4 = tail (r.take (k + n)) then some ((r.drop k).take n, 1 + k + n + 4) else none
    else none

theorem first_frame (zs rest : List Int) (hl : zs.length ≤ 4096) : firstOf (frameOf zs ++ rest) = some (zs, (frameOf zs).length) := by
  have hd : dec 10 0 0 (put zs.length ++ (zs ++ (tail (txt zs) ++ rest))) = some (zs.length, (put zs.length).length) := Num.dec_put _ (by omega) _
  have e : frameOf zs ++ rest = 90 :: (put zs.length ++ (zs ++ (tail (txt zs) ++ rest))) := by simp [frameOf, txt]
  have et : put zs.length ++ (zs ++ (tail (txt zs) ++ rest)) = txt zs ++ (tail (txt zs) ++ rest) := by simp [txt]
  rw [e]
  simp only [firstOf, if_true, hd]
  have hk : (put zs.length).length + zs.length = (txt zs).length := (txt_len zs).symm
  have e1 : (put zs.length ++ (zs ++ (tail (txt zs) ++ rest))).take ((put zs.length).length + zs.length) = txt zs := by
    rw [et, hk, List.take_left]
  have e2 : ((put zs.length ++ (zs ++ (tail (txt zs) ++ rest))).drop ((put zs.length).length + zs.length)).take 4 = tail (txt zs) := by
    rw [et, hk, List.drop_left, ← tail_len (txt zs), List.take_left]
  have e3 : ((put zs.length ++ (zs ++ (tail (txt zs) ++ rest))).drop (put zs.length).length).take zs.length = zs := by
    rw [List.drop_left, List.take_left]
  rw [e1, e2, e3, if_pos ⟨hl, by simp [tail_len]; omega, rfl⟩, frame_len]

theorem first_is {bs zs : List Int} {m : Nat} (hr : ∀ x ∈ bs, 0 ≤ x ∧ x ≤ 255) (h : firstOf bs = some (zs, m)) : zs.length ≤ 4096 ∧ m = (frameOf zs).length ∧ bs.take m = frameOf zs ∧ m ≤ bs.length := by
  cases bs with
  | nil => cases h
  | cons b r =>
    simp only [firstOf] at h
    by_cases hb : b = 90
    · subst hb
      rw [if_pos rfl] at h
      cases hd : dec 10 0 0 r with
      | none => rw [hd] at h; cases h
      | some nk =>
        obtain ⟨n, k⟩ := nk
        rw [hd] at h
        dsimp only at h
        by_cases hc : n ≤ 4096 ∧ k + n + 4 ≤ r.length ∧ (r.drop (k + n)).take 4 = tail (r.take (k + n))
        · rw [if_pos hc] at h
          simp only [Option.some.injEq, Prod.mk.injEq] at h
          obtain ⟨rfl, rfl⟩ := h
          obtain ⟨hp, hk⟩ := Num.dec_is (fun x hx => hr x (by simp [hx])) hd
          obtain ⟨h1, h2, h3⟩ := hc
          have hlen : ((r.drop k).take n).length = n := by rw [List.length_take, List.length_drop]; omega
          have htx : r.take (k + n) = txt ((r.drop k).take n) := by
            rw [List.take_add, hp, txt, hlen]
          refine ⟨by omega, ?_, ?_, by simp; omega⟩
          · rw [frame_len, hlen, ← hk]
          · rw [show 1 + k + n + 4 = (k + n + 4) + 1 by omega, List.take_succ_cons, List.take_add, h3, htx]
            rfl
        · rw [if_neg hc] at h; cases h
    · rw [if_neg hb] at h; cases h

/-- two frames' beginnings: bytes begin with one frame at most -/
theorem first_iff {bs : List Int} (hr : ∀ x ∈ bs, 0 ≤ x ∧ x ≤ 255) (zs : List Int) (m : Nat) :
    firstOf bs = some (zs, m) ↔ zs.length ≤ 4096 ∧ m = (frameOf zs).length ∧ bs.take m = frameOf zs := by
  constructor
  · intro h
    obtain ⟨h1, h2, h3, _⟩ := first_is hr h
    exact ⟨h1, h2, h3⟩
  · rintro ⟨h1, rfl, h3⟩
    have e := List.take_append_drop (frameOf zs).length bs
    rw [h3] at e
    rw [← e]
    exact first_frame zs _ h1

theorem first_cut (zs : List Int) (hl : zs.length ≤ 4096) (j : Nat) (hj : j < (frameOf zs).length) (hrf : ∀ x ∈ frameOf zs, 0 ≤ x ∧ x ≤ 255) : firstOf ((frameOf zs).take j) = none := by
  cases h : firstOf ((frameOf zs).take j) with
  | none => rfl
  | some p =>
    obtain ⟨ys, m⟩ := p
    obtain ⟨h1, h2, h3, h4⟩ := first_is (fun x hx => hrf x (List.mem_of_mem_take hx)) h
    rw [List.length_take] at h4
    rw [List.take_take, Nat.min_eq_left (by omega)] at h3
    have h5 := (first_iff hrf ys m).2 ⟨h1, h2, h3⟩
    have h6 := first_frame zs [] hl
    rw [List.append_nil] at h6
    rw [h6] at h5
    simp only [Option.some.injEq, Prod.mk.injEq] at h5
    omega

theorem txt_range {zs : List Int} (hl : zs.length ≤ 4096) (hr : ∀ x ∈ zs, 0 ≤ x ∧ x ≤ 255) : ∀ x ∈ txt zs, 0 ≤ x ∧ x ≤ 255 := by
  intro x hx
  rcases List.mem_append.1 hx with h | h
  · exact Num.enc_range 9 zs.length (Nat.lt_of_le_of_lt hl (by decide)) x h
  · exact hr x h
theorem frame_range {zs : List Int} (hl : zs.length ≤ 4096) (hr : ∀ x ∈ zs, 0 ≤ x ∧ x ≤ 255) : ∀ x ∈ frameOf zs, 0 ≤ x ∧ x ≤ 255 := by
  intro x hx
  rcases List.mem_cons.1 hx with rfl | hx
  · omega
  · rcases List.mem_append.1 hx with h | h
    · exact txt_range hl hr x h
    · exact le4_range (Crc.mask_lt _) x h

/-- other bytes in the record: no frame any more -/
theorem first_spoilt (zs ys rest : List Int) (hy : ys.length = zs.length) (hne : Crc.crc (txt ys) ≠ Crc.crc (txt zs)) (hl : zs.length ≤ 4096) : firstOf (90 :: (txt ys ++ tail (txt zs)) ++ rest) = none := by
  have hd : dec 10 0 0 (put ys.length ++ (ys ++ (tail (txt zs) ++ rest))) = some (ys.length, (put ys.length).length) := Num.dec_put _ (by omega) _
  have e : 90 :: (txt ys ++ tail (txt zs)) ++ rest = 90 :: (put ys.length ++ (ys ++ (tail (txt zs) ++ rest))) := by simp [txt]
  have et : put ys.length ++ (ys ++ (tail (txt zs) ++ rest)) = txt ys ++ (tail (txt zs) ++ rest) := by simp [txt]
  rw [e]
  simp only [firstOf, if_true, hd]
  have hk : (put ys.length).length + ys.length = (txt ys).length := (txt_len ys).symm
  have e1 : (put ys.length ++ (ys ++ (tail (txt zs) ++ rest))).take ((put ys.length).length + ys.length) = txt ys := by
    rw [et, hk, List.take_left]
  have e2 : ((put ys.length ++ (ys ++ (tail (txt zs) ++ rest))).drop ((put ys.length).length + ys.length)).take 4 = tail (txt zs) := by
    rw [et, hk, List.drop_left, ← tail_len (txt zs), List.take_left]
  rw [e1, e2, if_neg]
  rintro ⟨_, _, h⟩
  exact hne ((Crc.mask_inj (Crc.crc_lt _) (Crc.crc_lt _)).1 (le4_inj h)).symm

theorem raw_txt (zs : List Int) (hl : zs.length < 128) (q : Nat) (hq : 8 ≤ q) : Crc.raw (txt zs) q = Crc.raw zs (q - 8) := by
  unfold Crc.raw txt put
  rw [Num.enc_small _ _ hl]
  obtain ⟨i, hi⟩ : ∃ i, q / 8 = i + 1 := ⟨q / 8 - 1, by omega⟩
  rw [hi, show (q - 8) / 8 = i by omega, show (q - 8) % 8 = q % 8 by omega]
  simp [List.getD]
theorem raw_txt0 (zs ys : List Int) (hl : zs.length < 128) (hy : ys.length = zs.length) (q : Nat) (hq : q < 8) : Crc.raw (txt ys) q = Crc.raw (txt zs) q := by
  unfold Crc.raw txt put
  rw [hy, Num.enc_small _ _ hl, show q / 8 = 0 by omega]
  simp [List.getD]

theorem crc_txt_burst (zs ys : List Int) (p m : Nat) (hl : zs.length < 128) (hy : ys.length = zs.length) (hp : p + 32 ≤ 8 * zs.length) (hm : m < 4294967296)
    (h : ∀ q, q < 8 * zs.length → Crc.raw ys q = (Crc.raw zs q ^^ Crc.burst p m q)) : Crc.crc (txt zs) = Crc.crc (txt ys) ↔ m = 0 := by
  have hlen : ∀ vs : List Int, vs.length = zs.length → (txt vs).length = zs.length + 1 := fun vs hv => by
    rw [txt_len, hv, put, Num.enc_small _ _ hl]; simp; omega
  refine Crc.crc_burst (txt zs) (txt ys) (zs.length + 1) (p + 8) m (hlen _ rfl) (hlen _ hy) (by omega) hm (fun q hq => ?_)
  by_cases h8 : q < 8
  · rw [raw_txt0 zs ys hl hy q h8]
    have : Crc.burst (p + 8) m q = false := by unfold Crc.burst; simp; omega
    rw [this, Bool.xor_false]
  · rw [raw_txt ys (by omega) q (by omega), raw_txt zs hl q (by omega), h (q - 8) (by omega)]
    congr 1
    unfold Crc.burst
    rw [show q - 8 - p = q - (p + 8) by omega]
    congr 2
    · rw [decide_eq_decide]; omega
    · rw [decide_eq_decide]; omega

/-! the records of bytes -/
inductive Scans : List Int → List (List Int) → Nat → Prop
  | stop {bs} : firstOf bs = none → Scans bs [] 0
  | more {bs zs m l g} : firstOf bs = some (zs, m) → Scans (bs.drop m) l g → Scans bs (zs :: l) (m + g)

theorem Scans.one {bs : List Int} {l l' : List (List Int)} {g g' : Nat} (h : Scans bs l g) (h' : Scans bs l' g') : l = l' ∧ g = g' := by
  induction h generalizing l' g' with
  | stop h0 =>
    cases h' with
    | stop _ => exact ⟨rfl, rfl⟩
    | more h1 _ => rw [h0] at h1; cases h1
  | more h0 _ ih =>
    cases h' with
    | stop h1 => rw [h0] at h1; cases h1
    | more h1 h2 =>
      rw [h0] at h1
      simp only [Option.some.injEq, Prod.mk.injEq] at h1
      obtain ⟨rfl, rfl⟩ := h1
      obtain ⟨rfl, rfl⟩ := ih h2
      exact ⟨rfl, rfl⟩

theorem Scans.exist (n : Nat) : ∀ (bs : List Int), bs.length ≤ n → (∀ x ∈ bs, 0 ≤ x ∧ x ≤ 255) → ∃ l g, Scans bs l g := by
  induction n with
  | zero =>
    intro bs hn _
    have : bs = [] := List.eq_nil_of_length_eq_zero (by omega)
    subst this
    exact ⟨_, _, .stop rfl⟩
  | succ n ih =>
    intro bs hn hr
    cases h : firstOf bs with
    | none => exact ⟨_, _, .stop h⟩
    | some p =>
      obtain ⟨zs, m⟩ := p
      obtain ⟨_, h2, _, h4⟩ := first_is hr h
      rw [frame_len] at h2
      obtain ⟨l, g, hs⟩ := ih (bs.drop m) (by rw [List.length_drop]; omega) (fun x hx => hr x (List.mem_of_mem_drop hx))
      exact ⟨_, _, .more h hs⟩

theorem frame_ends {m p z g b l : Nat} (h2 : m = 1 + p + z + 4) (h7 : 1 ≤ p) (h4 : m ≤ b) (h5 : g ≤ b - m ∧ 6 * l ≤ g) : m + g ≤ b ∧ 6 * (l + 1) ≤ m + g := by omega
theorem Scans.le {bs : List Int} {l : List (List Int)} {g : Nat} (h : Scans bs l g) : (∀ x ∈ bs, 0 ≤ x ∧ x ≤ 255) → g ≤ bs.length ∧ 6 * l.length ≤ g := by
  induction h with
  | stop _ => intro _; simp
  | more h0 _ ih =>
    intro hr
    obtain ⟨_, h2, _, h4⟩ := first_is hr h0
    have h5 := ih (fun x hx => hr x (List.mem_of_mem_drop hx))
    rw [frame_len] at h2
    rw [List.length_drop] at h5
    simp only [List.length_cons]
    exact frame_ends h2 (Num.put_len _).1 h4 h5

/-- what was gone over, and what stands behind it -/
theorem Scans.frame {zs rest : List Int} {l : List (List Int)} {g : Nat} (hl : zs.length ≤ 4096) (h : Scans rest l g) : Scans (frameOf zs ++ rest) (zs :: l) ((frameOf zs).length + g) := by
  refine .more (first_frame zs rest hl) ?_
  rw [List.drop_left]
  exact h

theorem Scans.frames : ∀ (ls : List (List Int)) {rest : List Int} {l : List (List Int)} {g : Nat}, (∀ z ∈ ls, z.length ≤ 4096) → Scans rest l g →
    Scans ((ls.map frameOf).flatten ++ rest) (ls ++ l) ((ls.map frameOf).flatten.length + g)
  | [], _, _, _, _, h => by simpa using h
  | z :: ls, rest, l, g, hl, h => by
    have h1 := Scans.frames ls (fun z hz => hl z (by simp [hz])) h
    have h2 := Scans.frame (zs := z) (hl z (by simp)) h1
    simpa [Nat.add_assoc] using h2

end Frame
end Go.Proofs.Ytjpbniajhkindaa
