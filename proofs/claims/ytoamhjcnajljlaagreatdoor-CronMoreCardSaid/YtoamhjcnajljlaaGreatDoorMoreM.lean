/- An expression that may be, told as a text, is parsed as what allows the same; what allows more fits where it did. -/
import Derived.Test.YtoamhjcnajljlaaGreatDoorParts
import Derived.Test.YtoamhjcnajljlaaGreatDoorTextN
import Derived.Test.YtoamhjcnajljlaaGreatDoorTextX
namespace Go.Proofs.YtoamhjcnajljlaaGreatDoor
open Go

namespace Fld
/-- a byte of a field's text -/
def inText (c : UInt8) : Prop := c ≠ 32 ∧ c ≠ 64
theorem dig_in : ∀ n : Fin 64, ∀ c ∈ dig n.val, c ≠ 32 ∧ c ≠ 64 := by decide +kernel
theorem run_in {x y : Nat} (hx : x < 64) (hy : y < 64) : ∀ c ∈ run x y, inText c := by
  intro c hc
  have h1 := dig_in ⟨x, hx⟩
  have h2 := dig_in ⟨y, hy⟩
  unfold run at hc
  split at hc
  · exact h1 c hc
  · split at hc
    · simp only [List.mem_append, List.mem_singleton] at hc
      rcases hc with (hc | rfl) | hc
      · exact h1 c hc
      · exact ⟨by decide, by decide⟩
      · exact h2 c hc
    · simp only [List.mem_append, List.mem_singleton] at hc
      rcases hc with (hc | rfl) | hc
      · exact h1 c hc
      · exact ⟨by decide, by decide⟩
      · exact h2 c hc
theorem join_in {P : UInt8 → Prop} (h44 : P 44) : ∀ xs : List (List UInt8), (∀ x ∈ xs, ∀ c ∈ x, P c) → ∀ c ∈ Lib.join xs [44], P c
  | [], _, c, hc => by simp [Lib.join_nil] at hc
  | x :: xs, h, c, hc => by
    rw [Lib.join_cons] at hc
    simp only [List.mem_append, Lib.joinTail, List.mem_flatten, List.mem_map] at hc
    rcases hc with hc | ⟨_, ⟨q, hq, rfl⟩, hc⟩
    · exact h x (by simp) c hc
    · simp only [List.mem_append, List.mem_singleton] at hc
      rcases hc with rfl | hc
      · exact h44
      · exact h q (by simp [hq]) c hc
theorem cost_top {b n : Nat} {rs : List (Nat × Nat)} {M : Nat} (hM : M < 64) (hr : Runs b n rs) : (∀ r ∈ rs, r.1 ≤ r.2 ∧ r.2 ≤ M) → ∀ N, (∀ r ∈ rs.head?, N ≤ r.1) → cost rs ≤ 2 * (M + 3 - N) := by
  induction hr with
  | stop h => intro _ N _; simp [cost]
  | @next n x y rs h hxy hall hend hr ih =>
    intro hA N hN
    have hx : N ≤ x := hN (x, y) (by simp)
    have hy : y ≤ M := (hA (x, y) (by simp)).2
    have h1 := run_len hxy (show y < 64 by omega)
    have h2 := ih (fun r hr => hA r (by simp [hr])) (y + 2) (fun r hr' => by
      cases hr with
      | stop h => simp at hr'
      | next h' _ _ _ _ =>
        simp at hr'
        rw [← hr']
        exact first_after hend h')
    simp only [cost]
    omega
theorem text_in {k b : Nat} (star : Bool) (hk : k ≤ 4) (hb : b < 2 ^ 64) (hm : may (k : Int) b = true) : (text (k : Int) b star).length ≤ 2 * (hi k + 3) ∧ ∀ c ∈ text (k : Int) b star, inText c := by
  by_cases h : star = true ∧ b = all k
  · have e : text (k : Int) b star = [42] := by unfold text; rw [if_pos hm, if_pos (by rw [Int.toNat_natCast]; exact h)]
    rw [e]
    refine ⟨by simp; omega, fun c hc => ?_⟩
    rw [List.mem_singleton.1 hc]
    exact ⟨by decide, by decide⟩
  · have e : text (k : Int) b star = body b := by unfold text; rw [if_pos hm, if_neg (by rw [Int.toNat_natCast]; exact h)]
    obtain ⟨rs, hr⟩ := runs_are hb 64 0 (by omega)
    obtain ⟨hbody, hall⟩ := body_runs hb hr
    have hbits := ((may_iff hk hb).1 hm).2
    have hhi := (hi_le hk).2.1
    rw [e, hbody]
    constructor
    · have h1 := cost_top (M := hi k) (by omega) hr (fun r hr => ⟨(hall r hr).1, (hbits r.2 ((hall r hr).2.2 r.2 (hall r hr).1 (Nat.le_refl _))).2⟩) 0 (fun r _ => Nat.zero_le _)
      have h2 := join_cost rs
      omega
    · refine join_in ⟨by decide, by decide⟩ _ fun x hx => ?_
      obtain ⟨r, hr', rfl⟩ := List.mem_map.1 hx
      have := hall r hr'
      exact run_in (by omega) (by omega)
theorem no_text : ∀ k : Fin 5, err k.val [] ≠ 0 := by decide +kernel
theorem text_some {k b : Nat} (star : Bool) (hk : k ≤ 4) (hb : b < 2 ^ 64) (hm : may (k : Int) b = true) : text (k : Int) b star ≠ [] := by
  intro h
  have := (back star hk hb hm).2.1
  rw [h] at this
  exact no_text ⟨k, by omega⟩ this
end Fld

namespace Cron
variable {b : Nat → Nat} (s : Nat → Bool) (hb : ∀ k, k < 5 → b k < 2 ^ 64) (hm : may b = true)
include hb hm
theorem tx_in (k : Nat) (hk : k < 5) : ∀ c ∈ Fld.text (k : Int) (b k) (s k), Fld.inText c := (Fld.text_in (s k) (by omega) (hb k hk) (may_iff.1 hm k hk)).2
theorem tx_blank (k : Nat) (hk : k < 5) : (32 : UInt8) ∉ Fld.text (k : Int) (b k) (s k) := fun h => (tx_in s hb hm k hk 32 h).1 rfl
theorem upto_parts : parts (upto b s 4) = (List.range 5).map fun (k : Nat) => Fld.text (k : Int) (b k) (s k) := by
  have h0 := tx_blank s hb hm 0 (by decide)
  have h1 := tx_blank s hb hm 1 (by decide)
  have h2 := tx_blank s hb hm 2 (by decide)
  have h3 := tx_blank s hb hm 3 (by decide)
  have h4 := tx_blank s hb hm 4 (by decide)
  show parts ((((Fld.text ((0 : Nat) : Int) (b 0) (s 0) ++ 32 :: Fld.text ((1 : Nat) : Int) (b 1) (s 1)) ++ 32 :: Fld.text ((2 : Nat) : Int) (b 2) (s 2)) ++ 32 :: Fld.text ((3 : Nat) : Int) (b 3) (s 3)) ++ 32 :: Fld.text ((4 : Nat) : Int) (b 4) (s 4)) = _
  simp only [List.append_assoc, List.cons_append]
  rw [parts_next _ _ h0, parts_next _ _ h1, parts_next _ _ h2, parts_next _ _ h3, parts_one _ h4]
  rfl
theorem upto_long : (upto b s 4).length ≤ 400 := by
  have h := fun k (hk : k < 5) => (Fld.text_in (s k) (by omega) (hb k hk) (may_iff.1 hm k hk)).1
  have h0 : (Fld.text 0 (b 0) (s 0)).length ≤ 124 := h 0 (by decide)
  have h1 : (Fld.text 1 (b 1) (s 1)).length ≤ 52 := h 1 (by decide)
  have h2 : (Fld.text 2 (b 2) (s 2)).length ≤ 68 := h 2 (by decide)
  have h3 : (Fld.text 3 (b 3) (s 3)).length ≤ 30 := h 3 (by decide)
  have h4 : (Fld.text 4 (b 4) (s 4)).length ≤ 18 := h 4 (by decide)
  show ((((Fld.text 0 (b 0) (s 0) ++ 32 :: Fld.text 1 (b 1) (s 1)) ++ 32 :: Fld.text 2 (b 2) (s 2)) ++ 32 :: Fld.text 3 (b 3) (s 3)) ++ 32 :: Fld.text 4 (b 4) (s 4)).length ≤ 400
  simp only [List.length_append, List.length_cons]
  omega
theorem upto_plain : Lib.hasPrefix (upto b s 4) [64] = false := by
  have h0 := tx_in s hb hm 0 (by decide)
  have hn := Fld.text_some (s 0) (by decide) (hb 0 (by decide)) (may_iff.1 hm 0 (by decide))
  have e : ∃ r, upto b s 4 = Fld.text ((0 : Nat) : Int) (b 0) (s 0) ++ r := by
    refine ⟨32 :: Fld.text ((1 : Nat) : Int) (b 1) (s 1) ++ 32 :: Fld.text ((2 : Nat) : Int) (b 2) (s 2) ++ 32 :: Fld.text ((3 : Nat) : Int) (b 3) (s 3) ++ 32 :: Fld.text ((4 : Nat) : Int) (b 4) (s 4), ?_⟩
    simp [upto]
  obtain ⟨r, e⟩ := e
  rw [e]
  cases ht : Fld.text ((0 : Nat) : Int) (b 0) (s 0) with
  | nil => exact absurd ht hn
  | cons c l =>
    have hc := (h0 c (by rw [ht]; simp)).2
    unfold Lib.hasPrefix
    rw [List.cons_append, List.isPrefixOf]
    have : ((64 : UInt8) == c) = false := beq_eq_false_iff_ne.2 fun e => hc e.symm
    rw [this]
    rfl
theorem part_at (k : Nat) (hk : k < 5) : (parts (upto b s 4)).getD k [] = Fld.text (k : Int) (b k) (s k) := by
  rw [upto_parts s hb hm, List.getD, List.getElem?_map, List.getElem?_range hk]
  rfl
/-- an expression that may be, told as a text, is parsed as what allows the same -/
theorem back7 : pErr (text b s) = 0 ∧ ∀ k, k < 5 → pB (text b s) k = b k := by
  have e : text b s = upto b s 4 := if_pos hm
  have hl := upto_long s hb hm
  have hp := upto_plain s hb hm
  have hpe : spErr (upto b s 4) = 0 := by
    unfold spErr
    rw [if_pos]
    · exact errF_zero 5 fun j hj => by
        rw [part_at s hb hm j hj]
        exact (Fld.back (s j) (by omega) (hb j hj) (may_iff.1 hm j hj)).2.1
    · unfold whole
      have hlen : (parts (upto b s 4)).length = 5 := by rw [upto_parts s hb hm]; simp
      have hno : (parts (upto b s 4)).contains [] = false := by
        rw [Bool.eq_false_iff]
        intro h
        rw [List.contains_iff_mem, upto_parts s hb hm] at h
        obtain ⟨k, hk, he⟩ := List.mem_map.1 h
        exact Fld.text_some (s k) (by have := List.mem_range.1 hk; omega) (hb k (List.mem_range.1 hk)) (may_iff.1 hm k (List.mem_range.1 hk)) he
      rw [hlen, hno]
      rfl
  obtain ⟨q1, q2, -⟩ : pErr (upto b s 4) = spErr (upto b s 4) ∧ pB (upto b s 4) = spB (upto b s 4) ∧ True := by
    refine ⟨?_, ?_, trivial⟩
    · unfold pErr; rw [if_neg (by omega), if_neg (by rw [hp]; decide)]
    · funext k; unfold pB; rw [if_neg (by omega), if_neg (by rw [hp]; decide)]
  rw [e]
  refine ⟨q1.trans hpe, fun k hk => ?_⟩
  rw [q2]
  unfold spB
  rw [if_pos hpe, part_at s hb hm k hk]
  exact (Fld.back (s k) (by omega) (hb k hk) (may_iff.1 hm k hk)).2.2.1
end Cron

namespace Cron
theorem fits_second {b : Nat → Nat} {s : Nat → Bool} {y m d h i x k : Int} (hc : Stm.may y m d h i x k) : Stm.may y m d h i (59 - x) k ∧ fits b s y m d h i (59 - x) k = fits b s y m d h i x k := by
  have h2 : Stm.may y m d h i (59 - x) k := by
    obtain ⟨h1, h2, h3, h4, h5, h6, h7, h8⟩ := hc
    exact ⟨h1, h2, h3, h4, h5, by omega, by omega, h8⟩
  refine ⟨h2, ?_⟩
  unfold fits dayFits
  rw [decide_eq_true hc, decide_eq_true h2]
theorem fits_day {b : Nat → Nat} {s : Nat → Bool} {y m d h i x k : Int} (hf : fits b s y m d h i x k = true) : dayFits b s y m d h i x k = true := by
  unfold fits at hf
  rw [Bool.and_eq_true] at hf
  exact hf.1
theorem has_more {b c : Nat} {n : Int} (h : Fld.has b n = true) : Fld.has (b ||| c) n = true := by
  unfold Fld.has at *
  simp only [Bool.and_eq_true] at *
  exact ⟨h.1, h.2.1, by rw [Nat.testBit_or, h.2.2]; rfl⟩
theorem fits_more {b : Nat → Nat} {s : Nat → Bool} {y m d h i x k : Int} {b' : Nat → Nat} (hle : ∀ j n, Fld.has (b j) n = true → Fld.has (b' j) n = true) (hm : may b' = true) (hf : fits b s y m d h i x k = true) : fits b' s y m d h i x k = true := by
  unfold fits dayFits days at *
  simp only [Bool.and_eq_true] at *
  obtain ⟨⟨h1, h2, h3, h4⟩, h5, h6⟩ := hf
  refine ⟨⟨hm, h2, hle 3 m h3, ?_⟩, hle 0 i h5, hle 1 h h6⟩
  split
  · rename_i hs
    rw [if_pos hs, Bool.and_eq_true] at h4
    rw [Bool.and_eq_true]
    exact ⟨hle 2 d h4.1, hle 4 k h4.2⟩
  · rename_i hs
    rw [if_neg hs, Bool.or_eq_true] at h4
    rw [Bool.or_eq_true]
    rcases h4 with h4 | h4
    · exact .inl (hle 2 d h4)
    · exact .inr (hle 4 k h4)
end Cron
end Go.Proofs.YtoamhjcnajljlaaGreatDoor
