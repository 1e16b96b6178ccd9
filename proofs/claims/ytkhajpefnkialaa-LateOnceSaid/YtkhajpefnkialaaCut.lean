/- A row of numbers that is read, cut: what lies where. -/
import Derived.Test.YtkhajpefnkialaaUnw
import Derived.Laws.Slices
namespace Go.Proofs.Ytkhajpefnkialaa.Job
open Go.RowKit

theorem addNone (b q i : Nat) : (⟨b, q, none⟩ : Addr).add i = ⟨b, q + i, none⟩ := by
  unfold Addr.add
  split
  · subst i; rfl
  · rfl
theorem und22 : Try.prog.underlying 22 = some (.slice (Try.prog.elem 22)) := by kernel_rfl
theorem size22 (W : World) : (sizeOf (Try.prog.elem 22)).run Try.prog W = .ok 1 W := by
  have h : (Try.prog.info? 2).map (fun i => i.size) = some 1 := by kernel_rfl
  obtain ⟨i, hi, hs⟩ := Option.map_eq_some_iff.1 h
  simp [sizeOf, typeInfo, hi, hs, go_sem]
/-- the part of a row -/
def part (a : Option Addr) (al : List Int) (c lo hi : Nat) : Sl := ⟨if c = lo then a else a.map (·.add (lo * 1)), (al.take hi).drop lo, c - lo⟩
theorem part_len {a : Option Addr} {al : List Int} {c lo hi : Nat} (hh : hi ≤ al.length) : (part a al c lo hi).xs.length = hi - lo := by simp [part]; omega
theorem part_read {w : World} {a : Option Addr} {al : List Int} {c lo hi : Nat} (hv : Vals w a (al.map iv)) (hn : a = none → al.length = 0 ∧ c = 0) (h : lo ≤ hi) (hh : hi ≤ al.length) (hc : al.length ≤ c) : SlF w (part a al c lo hi) := by
  refine ⟨?_, fun e => ?_⟩
  · by_cases hx : (part a al c lo hi).xs = []
    · rw [hx]; exact Vals.nil _ _
    · have hl : lo < hi := by
        rcases Nat.lt_or_ge lo hi with h1 | h1
        · exact h1
        · exact absurd (List.eq_nil_of_length_eq_zero (by rw [part_len hh]; omega)) hx
      have hcl : ¬ c = lo := by omega
      obtain ⟨g, q, h1, h2⟩ := hv
      have ea := h1 (by intro e; have := congrArg List.length e; rw [List.length_map, List.length_nil] at this; omega)
      subst ea
      refine ⟨g, q + lo, fun _ => by unfold part; simp only [if_neg hcl, Option.map_some, Nat.mul_one]; rw [addNone], fun i hi' => ?_⟩
      have hlen : i < hi - lo := by rw [List.length_map, part_len hh] at hi'; exact hi'
      obtain ⟨hg, hcell⟩ := h2 (lo + i) (by rw [List.length_map]; omega)
      refine ⟨hg, ?_⟩
      rw [show q + lo + i = q + (lo + i) by omega, hcell]
      simp [part]
  · rw [part_len hh]
    unfold part at e ⊢
    simp only [] at e ⊢
    by_cases hcl : c = lo
    · omega
    · rw [if_neg hcl] at e
      have := hn (by simpa using e)
      omega
theorem cut_lh {a : Option Addr} {al : List Int} {c lo hi : Nat} (h : lo ≤ hi) (hh : hi ≤ al.length) (hc : al.length ≤ c) (W : World) :
    (Instr.slice 22 (.slice a al.length c) (some (.int .i64 (lo : Int))) (some (.int .i64 (hi : Int))) none).run Try.prog W = .ok (.slice (part a al c lo hi).a (part a al c lo hi).xs.length (part a al c lo hi).c) W := by
  rw [run_slice_lh _ _ _ _ _ und22 _ _ _ _ (by omega) (by omega) (by omega), size22, part_len hh]
  simp [go_sem, part]
theorem cut_h {a : Option Addr} {al : List Int} {c hi : Nat} (hh : hi ≤ al.length) (hc : al.length ≤ c) (W : World) :
    (Instr.slice 22 (.slice a al.length c) none (some (.int .i64 (hi : Int))) none).run Try.prog W = .ok (.slice (part a al c 0 hi).a (part a al c 0 hi).xs.length (part a al c 0 hi).c) W := by
  rw [run_slice_h _ _ _ _ _ und22 _ _ (by omega) (by omega), size22, part_len hh]
  simp [go_sem, part]
theorem cut_l {a : Option Addr} {al : List Int} {c lo : Nat} (hh : lo ≤ al.length) (W : World) :
    (Instr.slice 22 (.slice a al.length c) (some (.int .i64 (lo : Int))) none none).run Try.prog W = .ok (.slice (part a al c lo al.length).a (part a al c lo al.length).xs.length (part a al c lo al.length).c) W := by
  rw [run_slice_l _ _ _ _ _ und22 _ _ (by omega) (by omega), size22, part_len (Nat.le_refl _)]
  simp [go_sem, part]
end Go.Proofs.Ytkhajpefnkialaa.Job
