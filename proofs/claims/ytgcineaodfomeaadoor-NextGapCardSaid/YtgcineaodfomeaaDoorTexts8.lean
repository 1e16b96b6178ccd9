/- The texts of stage 8's own examples are plain; what the reference's Parse tells of each. -/
import Derived.Test.YtgcineaodfomeaaDoorRefParX
namespace Go.Proofs.YtgcineaodfomeaaDoor
open Go.RowKit

/-- "30 12 29 2 *", "0 0 30 2 *", "0 0 1 1 *", "5 0 * * *", "0 * * * *", "* * * * *" -/
def x8 : List (List UInt8) :=
  [[51, 48, 32, 49, 50, 32, 50, 57, 32, 50, 32, 42], [48, 32, 48, 32, 51, 48, 32, 50, 32, 42], [48, 32, 48, 32, 49, 32, 49, 32, 42], [53, 32, 48, 32, 42, 32, 42, 32, 42], [48, 32, 42, 32, 42, 32, 42, 32, 42], [42, 32, 42, 32, 42, 32, 42, 32, 42]]
theorem x8_plain : ∀ i : Fin 6, Cron.plain (x8.getD i.val []) := by decide +kernel
theorem x8_may : ∀ i : Fin 6, Cron.may (Cron.rb (x8.getD i.val [])) = true := by decide +kernel
theorem x8_first : ∀ i : Fin 6, 1 ≤ (x8.getD i.val []).length ∧ (x8.getD i.val []).length ≤ 400 ∧ ((((x8.getD i.val []).headD 0).toNat : Nat) : Int) ≠ 64 := by decide +kernel
theorem rb_lt {l : List UInt8} (h : Cron.plain l) : ∀ k, k < 5 → Cron.rb l k < 2 ^ 64 := fun k hk => Fld.sb_lt (by omega) (h.2 ⟨k, hk⟩)
theorem x8_any (i : Fin 6) (w : World) : Calls Tryd.prog 31 #[.string (ba (x8.getD i.val []))] w fun e w' => e = .returned (.tuple #[xval (Cron.rb (x8.getD i.val [])) (Cron.rs (x8.getD i.val [])), .int .i64 0]) ∧ Below w.heap.size w w' := by
  obtain ⟨h1, h2, h3⟩ := x8_first i
  refine rparseX_any _ ⟨h1, h2⟩ ?_ (x8_plain i) w
  rw [beq_eq_false_iff_ne]
  intro h
  apply h3
  rw [← h]
  generalize x8.getD i.val [] = l at *
  cases l with
  | nil => simp at h1
  | cons c r => rfl
end Go.Proofs.YtgcineaodfomeaaDoor
