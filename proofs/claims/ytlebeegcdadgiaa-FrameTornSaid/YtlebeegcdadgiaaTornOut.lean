/- The law FrameTorn, outside what it speaks of; its rows as they come in. -/
import Derived.Test.YtlebeegcdadgiaaTornWalk
namespace Go.Proofs.Ytlebeegcdadgiaa
open Go.RowKit

set_option maxRecDepth 100000 in
set_option maxHeartbeats 4000000 in
theorem torn_out (a0 : Option Addr) (n0 c0 : Nat) (a1 : Option Addr) (n1 c1 : Nat) (a2 : Option Addr) (n2 c2 : Nat) (cut at0 mask : Int) (w : World)
    (h : 10 < n0 ∨ 100 < n1 ∨ 20 < n2 ∨ cut < 0 ∨ at0 < 0) :
    Calls Try.prog 5 #[.slice a0 n0 c0, .slice a1 n1 c1, .slice a2 n2 c2, .int .i64 cut, .int .i64 at0, .int .u32 mask] w fun e w' => e = .returned (.bool true) ∧ Below w.heap.size w w' := by
  have HH := Lib.hid h
  clear h
  go_enter Try.func5, Try.ntmps5
  go_wp2_with fail
  refine (known_any w).mono ?_
  rintro e w1 ⟨rfl, hb1⟩
  by_cases h0 : 10 < n0
  · go_wp2
    go_ret
    exact ⟨rfl, hb1⟩
  · by_cases h1 : 100 < n1
    · go_wp2
      go_ret
      exact ⟨rfl, hb1⟩
    · by_cases h2 : 20 < n2
      · go_wp2
        go_ret
        exact ⟨rfl, hb1⟩
      · by_cases h3 : cut < 0
        · go_wp2
          go_ret
          exact ⟨rfl, hb1⟩
        · have h4 : at0 < 0 := by have := HH.out; omega
          go_wp2
          go_ret
          exact ⟨rfl, hb1⟩

/-- a slice of slices of bytes that came in -/
def InRows (w : World) (a : Option Addr) (len cap : Nat) : Prop :=
  (a = none ∧ len = 0 ∧ cap = 0) ∨ ∃ (x : Addr) (A : Nat → Option Addr) (L C : Nat → Nat) (Z : Nat → List Int), a = some x ∧ len ≤ cap ∧ cap ≤ maxLen ∧
    ∀ r, r < cap → w.cell? (x.add r) = some (.slice (A r) (L r) (C r)) ∧ L r ≤ C r ∧ C r ≤ maxLen ∧ (Z r).length = C r ∧ (∀ n ∈ Z r, (Lit.int .u8 n).wf = true) ∧ (A r = none → C r = 0) ∧
      ∀ a', A r = some a' → ∀ c, c < C r → w.cell? (a'.add c) = some (.int .u8 ((Z r).getD c 0))

theorem InRows.rows {w : World} {a : Option Addr} {len cap : Nat} (h : InRows w a len cap) : ∃ vs ls, RowsIn w a vs ls ∧ len = ls.length ∧ (a = none → len = 0 ∧ cap = 0) := by
  rcases h with ⟨rfl, rfl, rfl⟩ | ⟨x, A, L, C, Z, rfl, hl, hm, hr⟩
  · exact ⟨[], [], ⟨rfl, fun i hi => by simp at hi⟩, rfl, fun _ => ⟨rfl, rfl⟩⟩
  · refine ⟨(List.range len).map fun r => .slice (A r) (L r) (C r), (List.range len).map fun r => (Z r).take (L r), ⟨by simp, fun i hi => ?_⟩, by simp, fun h => by cases h⟩
    have hil : i < len := by simpa using hi
    obtain ⟨h1, h2, h3, h4, h5, h6, h7⟩ := hr i (by omega)
    have hg : ((List.range len).map fun r => (Z r).take (L r)).getD i [] = (Z i).take (L i) := by simp [List.getD, hil]
    have hreads := row_reads (w := w) (a := A i) (len := L i) (cap := C i) (zs := Z i) (by
      cases hA : A i with
      | none =>
        have hc := h6 hA
        have hz : Z i = [] := List.eq_nil_of_length_eq_zero (by omega)
        exact .inl ⟨rfl, by omega, hc, hz⟩
      | some y => exact .inr ⟨y, rfl, h2, h3, h4, fun c hc => h7 y hA c (by omega), h5⟩)
    obtain ⟨r1, r2, _, _⟩ := hreads
    refine ⟨x, A i, C i, rfl, ?_, ?_, ?_, by rw [hg]; exact r1⟩
    · have hb := World.block_lt_of_cell? w _ h1
      rwa [add_block] at hb
    · rw [hg, ← r2]
      exact h1
    · rw [hg, ← r2]
      simp [hil]

end Go.Proofs.Ytlebeegcdadgiaa
