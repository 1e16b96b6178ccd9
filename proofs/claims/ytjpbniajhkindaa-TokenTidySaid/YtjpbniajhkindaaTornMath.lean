/- Plain mathematics of FrameTorn: a frame that is spoilt in its record's bytes; what is told of frames behind one another. No program is spoken of here. -/
import Derived.Test.YtjpbniajhkindaaFrames
import Derived.Test.YtjpbniajhkindaaSpoil
namespace Go.Proofs.Ytjpbniajhkindaa

theorem byte_eq {a b : Int} (ha : 0 ≤ a ∧ a ≤ 255) (hb : 0 ≤ b ∧ b ≤ 255) (h : ∀ t, t < 8 → a.toNat.testBit t = b.toNat.testBit t) : a = b := by
  have e : a.toNat = b.toNat := by
    apply Nat.eq_of_testBit_eq
    intro t
    rcases Nat.lt_or_ge t 8 with h8 | h8
    · exact h t h8
    · have hp : 2 ^ 8 ≤ 2 ^ t := Nat.pow_le_pow_right (by decide) h8
      rw [Nat.testBit_lt_two_pow (by omega), Nat.testBit_lt_two_pow (by omega)]
  omega

theorem getD_in {zs : List Int} (hr : ∀ x ∈ zs, 0 ≤ x ∧ x ≤ 255) (i : Nat) : 0 ≤ zs.getD i 0 ∧ zs.getD i 0 ≤ 255 := getD_range hr i

/-- a byte none of whose bits was turned -/
theorem Spoilt.same {zs cs : List Int} {p m : Nat} (hr : ∀ x ∈ zs, 0 ≤ x ∧ x ≤ 255) (h : Spoilt zs p m 32 cs) (j : Nat) (hj : j < zs.length) (hb : 8 * j + 8 ≤ p ∨ p + 32 ≤ 8 * j) : cs.getD j 0 = zs.getD j 0 := by
  refine byte_eq (getD_in h.hr j) (getD_in hr j) fun t ht => ?_
  have h1 := h.bit (8 * j + t) (by omega)
  unfold Crc.raw at h1
  rw [show (8 * j + t) / 8 = j by omega, show (8 * j + t) % 8 = t by omega] at h1
  rw [h1]
  have : tog p m 32 (8 * j + t) = false := by
    unfold tog
    rcases hb with hb | hb
    · rw [show decide (p ≤ 8 * j + t) = false by simp; omega]
      rfl
    · rw [show decide (8 * j + t < p + 32) = false by simp; omega]
      simp
  rw [this, Bool.xor_false]

namespace Frame
open Num (put)

theorem frame_short (zs : List Int) (hl : zs.length ≤ 100) : frameOf zs = 90 :: (zs.length : Int) :: (zs ++ tail (txt zs)) := by
  have e : put zs.length = [(zs.length : Int)] := by
    unfold put
    rw [Num.enc_small _ _ (by omega)]
  unfold frameOf
  conv => lhs; rw [show txt zs ++ tail (txt zs) = put zs.length ++ zs ++ tail (txt zs) from rfl]
  rw [e]
  rfl
theorem frame_short_len (zs : List Int) (hl : zs.length ≤ 100) : (frameOf zs).length = zs.length + 6 := by
  rw [frame_short zs hl]
  simp [tail_len]

theorem spoilt_frame (zs : List Int) (hl : zs.length ≤ 100) (hr : ∀ x ∈ zs, 0 ≤ x ∧ x ≤ 255) (p m : Nat) (hp : p + 32 ≤ 8 * zs.length) (cs : List Int) (h : Spoilt (frameOf zs) (16 + p) m 32 cs) :
    ∃ ys, ys.length = zs.length ∧ cs = 90 :: (txt ys ++ tail (txt zs)) ∧ ∀ q, q < 8 * zs.length → Crc.raw ys q = (Crc.raw zs q ^^ Crc.burst p m q) := by
  have hfr := frame_range (zs := zs) (by omega) hr
  have hfl := frame_short_len zs hl
  have hcl : cs.length = zs.length + 6 := by rw [h.len, hfl]
  have hfs := frame_short zs hl
  have hyl : ((cs.drop 2).take zs.length).length = zs.length := by rw [List.length_take, List.length_drop]; omega
  refine ⟨(cs.drop 2).take zs.length, hyl, ?_, fun q hq => ?_⟩
  · have hput : put zs.length = [(zs.length : Int)] := by
      unfold put
      rw [Num.enc_small _ _ (by omega)]
    have e0 : cs = cs.take 2 ++ ((cs.drop 2).take zs.length ++ (cs.drop 2).drop zs.length) := by
      rw [List.take_append_drop, List.take_append_drop]
    have e1 : cs.take 2 = [90, (zs.length : Int)] := by
      have s0 := h.same hfr 0 (by omega) (.inl (by omega))
      have s1 := h.same hfr 1 (by omega) (.inl (by omega))
      rw [hfs] at s0 s1
      match cs, hcl, s0, s1 with
      | c0 :: c1 :: r, _, s0, s1 =>
        simp at s0 s1
        simp [s0, s1]
    have e2 : (cs.drop 2).drop zs.length = tail (txt zs) := by
      rw [List.drop_drop]
      apply List.ext_getElem
      · rw [List.length_drop, tail_len]; omega
      · intro i h1 h2
        rw [tail_len] at h2
        have s := h.same hfr (2 + zs.length + i) (by omega) (.inr (by omega))
        rw [List.getElem_drop]
        have g1 : cs.getD (2 + zs.length + i) 0 = cs[2 + zs.length + i]'(by omega) := by
          simp [List.getD, show 2 + zs.length + i < cs.length by omega]
        rw [← g1, s, hfs]
        rw [show 2 + zs.length + i = (zs.length + i) + 1 + 1 by omega, List.getD_cons_succ, List.getD_cons_succ]
        simp [List.getD, tail_len, h2]
    have ht : txt ((cs.drop 2).take zs.length) = (zs.length : Int) :: (cs.drop 2).take zs.length := by
      unfold txt
      rw [hyl, hput]
      rfl
    rw [ht, ← e2]
    conv => lhs; rw [e0, e1]
    simp
  · have h1 := h.bit (q + 16) (by omega)
    have r1 : Crc.raw ((cs.drop 2).take zs.length) q = Crc.raw cs (q + 16) := by
      unfold Crc.raw
      rw [show (q + 16) / 8 = 2 + q / 8 by omega, show (q + 16) % 8 = q % 8 by omega]
      congr 2
      simp only [List.getD]
      rw [List.getElem?_take_of_lt (by omega), List.getElem?_drop]
    have r2 : Crc.raw (frameOf zs) (q + 16) = Crc.raw zs q := by
      unfold Crc.raw
      rw [show (q + 16) / 8 = q / 8 + 1 + 1 by omega, show (q + 16) % 8 = q % 8 by omega, hfs, List.getD_cons_succ, List.getD_cons_succ]
      congr 2
      simp only [List.getD]
      rw [List.getElem?_append_left (by omega)]
    rw [r1, h1, r2]
    congr 1
    unfold tog Crc.burst
    rw [show q + 16 - (16 + p) = q - p by omega]
    congr 2
    · rw [decide_eq_decide]; omega
    · rw [decide_eq_decide]; omega

theorem first_torn (zs : List Int) (hl : zs.length ≤ 100) (hr : ∀ x ∈ zs, 0 ≤ x ∧ x ≤ 255) (p m : Nat) (hp : p + 32 ≤ 8 * zs.length) (hm : m < 4294967296) (hm0 : m ≠ 0) (cs rest : List Int) (h : Spoilt (frameOf zs) (16 + p) m 32 cs) : firstOf (cs ++ rest) = none := by
  obtain ⟨ys, hy, rfl, hb⟩ := spoilt_frame zs hl hr p m hp cs h
  refine first_spoilt zs ys rest hy (fun e => hm0 ?_) (by omega)
  exact (crc_txt_burst zs ys p m (by omega) hy hp hm hb).1 e.symm

/-- frames, one behind the other -/
def flat (ls : List (List Int)) : List Int := (ls.map frameOf).flatten
theorem flat_nil : flat [] = [] := rfl
theorem flat_snoc (ls : List (List Int)) (zs : List Int) : flat (ls ++ [zs]) = flat ls ++ frameOf zs := by simp [flat]
theorem flat_range {ls : List (List Int)} (hl : ∀ z ∈ ls, z.length ≤ 4096) (hr : ∀ z ∈ ls, ∀ x ∈ z, 0 ≤ x ∧ x ≤ 255) : ∀ x ∈ flat ls, 0 ≤ x ∧ x ≤ 255 := by
  intro x hx
  unfold flat at hx
  obtain ⟨f, hf, hxf⟩ := List.mem_flatten.1 hx
  obtain ⟨z, hz, rfl⟩ := List.mem_map.1 hf
  exact frame_range (hl z hz) (hr z hz) x hxf

theorem scans_all (ls : List (List Int)) (zs : List Int) (hl : ∀ z ∈ ls, z.length ≤ 4096) (hz : zs.length ≤ 4096) : Scans (flat ls ++ frameOf zs) (ls ++ [zs]) ((flat ls).length + (frameOf zs).length) := by
  have h : Scans (frameOf zs) [zs] (frameOf zs).length := by
    have := Scans.frame (zs := zs) (rest := []) (l := []) (g := 0) hz (.stop rfl)
    simpa using this
  exact Scans.frames ls hl h
theorem scans_none (ls : List (List Int)) (rest : List Int) (hl : ∀ z ∈ ls, z.length ≤ 4096) (h : firstOf rest = none) : Scans (flat ls ++ rest) ls (flat ls).length := by
  have := Scans.frames ls hl (.stop h)
  simpa [flat] using this
theorem scans_cut (ls : List (List Int)) (zs : List Int) (j : Nat) (hl : ∀ z ∈ ls, z.length ≤ 4096) (hz : zs.length ≤ 4096) (hr : ∀ x ∈ zs, 0 ≤ x ∧ x ≤ 255) (hj : j < (frameOf zs).length) : Scans (flat ls ++ (frameOf zs).take j) ls (flat ls).length :=
  scans_none ls _ hl (first_cut zs hz j hj (frame_range hz hr))

end Frame
end Go.Proofs.Ytjpbniajhkindaa
