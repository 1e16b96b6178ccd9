/- How long a field's text is. -/
import Derived.Test.YtgcineaodfomeaaDoorTextM
namespace Go.Proofs.YtgcineaodfomeaaDoor.Fld
open Go

theorem dig_len {n : Nat} (h : n < 64) : (dig n).length ≤ 2 := (dig_some ⟨n, h⟩).2.1
theorem run_len {x y : Nat} (hxy : x ≤ y) (hy : y < 64) : (run x y).length + 1 ≤ 2 * (y - x + 2) := by
  have h1 := dig_len (show x < 64 by omega)
  have h2 := dig_len hy
  unfold run
  split
  · omega
  · split
    · simp only [List.length_append, List.length_cons, List.length_nil]; omega
    · simp only [List.length_append, List.length_cons, List.length_nil]; omega
def cost : List (Nat × Nat) → Nat
  | [] => 0
  | r :: rs => (run r.1 r.2).length + 1 + cost rs
theorem join_cost : ∀ rs : List (Nat × Nat), (Lib.join (rs.map fun r => run r.1 r.2) [44]).length ≤ cost rs
  | [] => by simp [Lib.join_nil]
  | [r] => by rw [List.map_cons, List.map_nil, Lib.join_one]; simp [cost]
  | r :: q :: rs => by
    have ih := join_cost (q :: rs)
    rw [List.map_cons, Lib.join_cons, Lib.joinTail, List.map_cons] at *
    simp only [List.map_cons, List.flatten_cons, List.length_append, List.length_cons, List.length_nil, cost] at *
    omega
theorem first_after {b y x : Nat} (hend : b.testBit (y + 1) = false) (h : first b ((y + 1 : Nat) : Int) = some x) : y + 2 ≤ x := by
  obtain ⟨_, h2, h3, _⟩ := first_spec h
  rcases Nat.lt_or_ge (y + 1) x with h4 | h4
  · omega
  · obtain rfl : x = y + 1 := by omega
    rw [hend] at h3; simp at h3
theorem cost_le {b n : Nat} {rs : List (Nat × Nat)} (hr : Runs b n rs) : (∀ r ∈ rs, r.1 ≤ r.2 ∧ r.2 < 64) → ∀ N, (∀ r ∈ rs.head?, N ≤ r.1) → cost rs ≤ 2 * (66 - N) := by
  induction hr with
  | stop h => intro _ N _; simp [cost]
  | @next n x y rs h hxy hall hend hr ih =>
    intro hA N hN
    have hx : N ≤ x := hN (x, y) (by simp)
    have hy : y < 64 := (hA (x, y) (by simp)).2
    have h1 := run_len hxy hy
    have h2 := ih (fun r hr => hA r (by simp [hr])) (y + 2) (fun r hr' => by
      cases hr with
      | stop h => simp at hr'
      | next h' _ _ _ _ =>
        simp at hr'
        rw [← hr']
        exact first_after hend h')
    simp only [cost]
    omega
theorem runs_len {b : Nat} {rs : List (Nat × Nat)} (hr : Runs b 0 rs) (h : ∀ r ∈ rs, r.1 ≤ r.2 ∧ r.2 < 64) : (Lib.join (rs.map fun r => run r.1 r.2) [44]).length ≤ 132 := by
  have h1 := cost_le hr h 0 (fun r _ => Nat.zero_le _)
  have h2 := join_cost rs
  omega
theorem runs_some {b : Nat} (h0 : b ≠ 0) (hb : b < 2 ^ 64) : ¬ Runs b 0 [] := by
  intro h
  cases h with
  | stop h =>
    obtain ⟨m, hm⟩ := Nat.exists_testBit_of_ne_zero h0
    have h64 : m < 64 := by
      rcases Nat.lt_or_ge m 64 with h' | h'
      · exact h'
      · rw [Nat.testBit_lt_two_pow (Nat.lt_of_lt_of_le hb (Nat.pow_le_pow_right (n := 2) (by decide) h'))] at hm; simp at hm
    have := first_none.1 h m (by omega) h64
    rw [hm] at this; simp at this
end Go.Proofs.YtgcineaodfomeaaDoor.Fld
