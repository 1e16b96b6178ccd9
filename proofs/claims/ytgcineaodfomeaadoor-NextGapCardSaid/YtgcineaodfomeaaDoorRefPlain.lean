/- ringerref06.Parse of '*' and of a number of one or two digits. -/
import Derived.Test.YtgcineaodfomeaaDoorRefPar
namespace Go.Proofs.YtgcineaodfomeaaDoor
open Go.RowKit

namespace Fld
/-- a field's text that is '*', or a number in digits that may be -/
def plain (k : Nat) (l : List UInt8) : Prop := l = [42] ∨ (digits l ∧ lo k ≤ dval l ∧ dval l ≤ top k)
instance (k : Nat) (l : List UInt8) : Decidable (plain k l) := by unfold plain; exact inferInstance
def sb (k : Nat) (l : List UInt8) : Nat := if l = [42] then all k else bit k (dval l)
def ss (l : List UInt8) : Bool := decide (l = [42])
theorem plain_in {k : Nat} {l : List UInt8} (h : plain k l) : (1 ≤ l.length ∧ l.length ≤ 2) ∧ ∀ c ∈ l, c = 42 ∨ (48 ≤ c.toNat ∧ c.toNat ≤ 57) := by
  rcases h with rfl | ⟨⟨h1, h2⟩, -⟩
  · exact ⟨by decide, fun c hc => .inl (List.mem_singleton.1 hc)⟩
  · exact ⟨by omega, fun c hc => .inr (h2 c hc)⟩
theorem plain_not {k : Nat} {l : List UInt8} (h : plain k l) (c : UInt8) (hc : c ≠ 42 ∧ (c.toNat < 48 ∨ 57 < c.toNat)) : c ∉ l := fun hm => by
  rcases (plain_in h).2 c hm with e | e
  · exact hc.1 e
  · omega
theorem sb_lt {k : Nat} (hk : k ≤ 4) {l : List UInt8} (h : plain k l) : sb k l < 2 ^ 64 := by
  unfold sb
  split
  · exact all_lt hk
  · rename_i hn
    rcases h with h | ⟨-, h1, h2⟩
    · exact absurd h hn
    · have := (spot_in hk h1 h2).2
      have := (hi_le hk).2.1
      unfold bit
      exact Nat.pow_lt_pow_right (by decide) (by omega)
end Fld

theorem upFrom_at {f n j x : Nat} (h : (upFrom f n)[j]? = some x) : j < n ∧ x = f + j := by
  have hj : j < n := by have := (List.getElem?_eq_some_iff.1 h).1; rwa [upFrom_len] at this
  unfold upFrom at h
  rw [List.getElem?_map, List.getElem?_range hj] at h
  exact ⟨hj, by simpa using h.symm⟩
theorem rparse_star (k : Nat) (hk : k ≤ 4) (w : World) : Calls Tryd.prog 46 #[.int .i64 (k : Int), .string (ba [42])] w fun e w' => e = .returned (.tuple #[fval (Fld.all k) true, .int .i64 0]) ∧ Below w.heap.size w w' := by
  have hle := Fld.hi_le hk
  have h46 : k = 4 → Fld.hi k = 6 := fun h => by rw [h]; rfl
  have H := rparse_one k hk [42] (by decide) (by decide) true rfl (upFrom (Fld.lo k) (Fld.hi k + 1 - Fld.lo k)) (fun h => by have := upFrom_len (Fld.lo k) (Fld.hi k + 1 - Fld.lo k); rw [h] at this; simp at this; omega) (by rw [upFrom_len]; omega)
    (fun j => 2 ^ (Fld.lo k + j) - 2 ^ Fld.lo k) (fun j => Fld.lo k + j) (by simp)
    (fun j n hn => by
      obtain ⟨hj, rfl⟩ := upFrom_at hn
      refine ⟨?_, by omega⟩
      rw [if_neg]
      rintro ⟨h4, h7⟩
      have := h46 h4
      omega)
    (fun j hj => by
      rw [upFrom_len] at hj
      have hpos : 0 < 2 ^ Fld.lo k := Nat.two_pow_pos _
      have hle2 : 2 ^ Fld.lo k ≤ 2 ^ (Fld.lo k + j) := Nat.pow_le_pow_right (by decide) (by omega)
      have h60 : 2 ^ (Fld.lo k + j) ≤ 2 ^ 60 := Nat.pow_le_pow_right (by decide) (by omega)
      refine ⟨?_, ?_, by omega, by omega⟩
      · rw [Fld.has_in (by omega)]
        exact Nat.testBit_lt_two_pow (by omega)
      · rw [show Fld.lo k + (j + 1) = (Fld.lo k + j) + 1 by omega, Nat.pow_succ]
        omega)
    (fun W => ritem_star k hk W) w
  rw [upFrom_len, show Fld.lo k + (Fld.hi k + 1 - Fld.lo k) = Fld.hi k + 1 by omega] at H
  exact H
theorem rparse_num (k : Nat) (hk : k ≤ 4) (l : List UInt8) (hd : Fld.digits l) (hin : Fld.lo k ≤ Fld.dval l ∧ Fld.dval l ≤ Fld.top k) (w : World) : Calls Tryd.prog 46 #[.int .i64 (k : Int), .string (ba l)] w fun e w' => e = .returned (.tuple #[fval (Fld.bit k (Fld.dval l)) false, .int .i64 0]) ∧ Below w.heap.size w w' := by
  have htop := Fld.top_le hk
  have hp : Fld.plain k l := .inr ⟨hd, hin⟩
  have hlen := (Fld.plain_in hp).1
  have hspot : Fld.spot k (Fld.dval l) = (if k = 4 ∧ Fld.dval l = 7 then 0 else Fld.dval l) := by
    unfold Fld.spot
    by_cases h4 : k = 4
    · have ht : Fld.top k = 7 := top_four h4
      rw [if_pos h4]
      by_cases h7 : Fld.dval l = 7
      · rw [if_pos ⟨h4, h7⟩, h7]
      · rw [if_neg (fun h => h7 h.2)]
        omega
    · rw [if_neg h4, if_neg (fun h => h4 h.1)]
  have hs59 : Fld.spot k (Fld.dval l) ≤ 59 := by
    have := (Fld.spot_in hk hin.1 hin.2).2
    have := (Fld.hi_le hk).2.1
    omega
  have H := rparse_one k hk l ⟨by omega, by omega⟩ (Fld.plain_not hp 44 (by decide)) false (by
      have := hd.2 _ (List.getElem_mem (by omega : 0 < l.length))
      rw [beq_eq_false_iff_ne]
      omega) [Fld.dval l] (by simp) (by simp)
    (fun j => if j = 0 then 0 else Fld.bit k (Fld.dval l)) (fun _ => Fld.spot k (Fld.dval l)) rfl
    (fun j n hn => by
      have hj : j = 0 := by have := (List.getElem?_eq_some_iff.1 hn).1; simpa using this
      subst hj
      obtain rfl : n = Fld.dval l := by simpa using hn.symm
      exact ⟨hspot, by omega⟩)
    (fun j hj => by
      have hj : j = 0 := by simpa using hj
      subst hj
      refine ⟨?_, ?_, by simp, hs59⟩
      · rw [if_pos rfl, Fld.has_in (by omega)]
        simp
      · simp [Fld.bit])
    (fun W => ritem_num k hk l hd hin W) w
  exact H
theorem rparse_plain (k : Nat) (hk : k ≤ 4) (l : List UInt8) (h : Fld.plain k l) (w : World) : Calls Tryd.prog 46 #[.int .i64 (k : Int), .string (ba l)] w fun e w' => e = .returned (.tuple #[fval (Fld.sb k l) (Fld.ss l), .int .i64 0]) ∧ Below w.heap.size w w' := by
  by_cases hs : l = [42]
  · subst hs
    exact rparse_star k hk w
  · rcases h with h | ⟨hd, hin⟩
    · exact absurd h hs
    · have := rparse_num k hk l hd hin w
      unfold Fld.sb Fld.ss
      rw [if_neg hs, decide_eq_false hs]
      exact this
end Go.Proofs.YtgcineaodfomeaaDoor
