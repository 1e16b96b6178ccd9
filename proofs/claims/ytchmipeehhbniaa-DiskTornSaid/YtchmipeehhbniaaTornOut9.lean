/- DiskTorn where what comes in is too much; the rows that came in. -/
import Derived.Test.YtchmipeehhbniaaTorn9A
namespace Go.Proofs.Ytchmipeehhbniaa
open Go.RowKit Go.Maps Dsk

/-- a row of rows that came in -/
def InRows9 (w : World) (a : Option Addr) (len cap : Nat) : Prop :=
  (a = none ∧ len = 0 ∧ cap = 0) ∨ ∃ (x : Addr) (A : Nat → Option Addr) (L C : Nat → Nat) (Z : Nat → List Int), a = some x ∧ len ≤ cap ∧ cap ≤ maxLen ∧
    ∀ r, r < cap → w.cell? (x.add r) = some (.slice (A r) (L r) (C r)) ∧ L r ≤ C r ∧ C r ≤ maxLen ∧ (Z r).length = C r ∧ (∀ n ∈ Z r, (Lit.int .u8 n).wf = true) ∧ (A r = none → C r = 0) ∧
      ∀ a', A r = some a' → ∀ c, c < C r → w.cell? (a'.add c) = some (.int .u8 ((Z r).getD c 0))

theorem InRows9.rows {w : World} {a : Option Addr} {len cap : Nat} (h : InRows9 w a len cap) : ∃ ls, Rows9 w a ls ∧ len = ls.length := by
  rcases h with ⟨rfl, rfl, rfl⟩ | ⟨x, A, L, C, Z, rfl, hl, hm, hr⟩
  · exact ⟨[], fun i hi => absurd hi (by simp), rfl⟩
  · refine ⟨(List.range len).map fun r => (Z r).take (L r), fun i hi => ?_, by simp⟩
    have hil : i < len := by simpa using hi
    obtain ⟨h1, h2, h3, h4, h5, h6, h7⟩ := hr i (by omega)
    have hg : ((List.range len).map fun r => (Z r).take (L r)).getD i [] = (Z i).take (L i) := by simp [List.getD, hil]
    have hreads := row_reads (w := w) (a := A i) (len := L i) (cap := C i) (zs := Z i) (by
      cases hA : A i with
      | none =>
        have hc := h6 hA
        have hz : Z i = [] := List.eq_nil_of_length_eq_zero (by omega)
        exact .inl ⟨rfl, by omega, hc, hz⟩
      | some y => exact .inr ⟨y, rfl, h2, h3, h4, fun c hc => h7 y hA c (by omega), h5⟩)
    obtain ⟨r1, r2, _, _⟩ := hreads
    refine ⟨x, A i, C i, rfl, ?_, ?_, by rw [hg]; exact r1, h6⟩
    · have hb := World.block_lt_of_cell? w _ h1
      rwa [add_block] at hb
    · rw [hg, ← r2]
      exact h1

set_option maxRecDepth 100000 in
set_option maxHeartbeats 2000000 in
theorem torn_out9 (a0 : Option Addr) (len0 cap0 : Nat) (synced : Int) (a2 : Option Addr) (len2 cap2 : Nat) (stay other : Int) (w : World) (h : 20 < len0 ∨ 60 < len2) :
    Calls Try.prog 4 #[.slice a0 len0 cap0, .int .i64 synced, .slice a2 len2 cap2, .int .i64 stay, .int .i64 other] w fun e w' => e = .returned (.bool true) ∧ Below w.heap.size w w' := by
  have HK := Lib.hid (known9_any w)
  by_cases h1 : 20 < len0
  · have d1 : decide (20 < (len0 : Int)) = true := by simp; omega
    clear h
    go_enter Try.func4, Try.ntmps4
    go_wp2_with fail
    refine HK.out.mono ?_
    rintro e w1 ⟨rfl, hb1⟩
    go_wp2
    go_ret
    exact ⟨rfl, hb1⟩
  · have d1 : decide (20 < (len0 : Int)) = false := by simp; omega
    have d2 : decide (60 < (len2 : Int)) = true := by simp; omega
    clear h h1
    go_enter Try.func4, Try.ntmps4
    go_wp2_with fail
    refine HK.out.mono ?_
    rintro e w1 ⟨rfl, hb1⟩
    go_wp2
    go_ret
    exact ⟨rfl, hb1⟩

end Go.Proofs.Ytchmipeehhbniaa
