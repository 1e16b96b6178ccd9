/- check.remainders and its closure, by their contracts. -/
import Derived.Test.YtlebeegcdadgiaaCrc
import Derived.Test.YtlebeegcdadgiaaProg
import Derived.WalkKit
import Derived.Lib.Hide
import Derived.OneCell
import Derived.Laws.BytesArg
import Derived.Deep.AppendLies
import Derived.Laws.Rows
namespace Go.Proofs.Ytlebeegcdadgiaa
open Go.RowKit

theorem and1_odd (x : Nat) (hx : x < 4294967296) (h : x.testBit 0 = true) : bits .and .u32 (x : Int) 1 = 1 := by
  rw [show (1 : Int) = ((1 : Nat) : Int) by rfl, u32_and_nat x 1 hx (by decide), Nat.and_one_is_mod]
  rw [Nat.testBit_zero] at h
  simp at h
  rw [h]
theorem and1_even (x : Nat) (hx : x < 4294967296) (h : x.testBit 0 = false) : bits .and .u32 (x : Int) 1 = 0 := by
  rw [show (1 : Int) = ((1 : Nat) : Int) by rfl, u32_and_nat x 1 hx (by decide), Nat.and_one_is_mod]
  rw [Nat.testBit_zero] at h
  simp at h
  rw [h]
  rfl

theorem xor_odd (x : Nat) (hx : x < 4294967296) (h : x.testBit 0 = true) : bits .xor .u32 ((x : Int) / 2) 2197175160 = ((Crc.step x : Nat) : Int) := by
  have := u32_xor_nat (x / 2) 2197175160 (by omega) (by decide)
  rw [show ((x : Int) / 2) = ((x / 2 : Nat) : Int) by omega]
  refine this.trans ?_
  unfold Crc.step
  rw [if_pos h]
  rfl
theorem step_even (x : Nat) (h : x.testBit 0 = false) : (x : Int) / 2 = ((Crc.step x : Nat) : Int) := by
  unfold Crc.step
  rw [if_neg (by simp [h]), Nat.xor_zero]
  omega

set_option maxHeartbeats 400000 in
theorem div_any (c x : Nat) (w : World) (hx : x < 4294967296) (hn : w.heap[c]? = some (.cells #[.int .u32 (x : Int)] 38 (0, 0))) :
    Calls Try.prog 38 #[.pointer (some ⟨c, 0, none⟩)] w fun e w' => e = .returned (.tuple #[]) ∧ Below c w w' ∧ w'.heap[c]? = some (.cells #[.int .u32 (Crc.step x : Int)] 38 (0, 0)) ∧ w'.heap[c + 1]? = w.heap[c + 1]? := by
  have c1 := cell_of_one hn
  have c2 := free_of_one hn
  cases hb : x.testBit 0 with
  | true =>
    have ha := and1_odd x hx hb
    go_enter Try.func38, Try.ntmps38
    go_wp2
    go_end0
    rw [xor_odd x hx hb]
    exact ⟨rfl, ((Below.refl c w).setCell (p := ⟨c, 0, none⟩) (Nat.le_refl _) _).setCell (p := ⟨c, 0, none⟩) (Nat.le_refl _) _, one_setCell (one_setCell hn), (heap_setCell_other _ _ _ _ (by show _ ≠ c; omega)).trans (heap_setCell_other _ _ _ _ (by show _ ≠ c; omega))⟩
  | false =>
    have ha := and1_even x hx hb
    go_enter Try.func38, Try.ntmps38
    go_wp2
    go_end0
    rw [← step_even x hb]
    exact ⟨rfl, (Below.refl c w).setCell (p := ⟨c, 0, none⟩) (Nat.le_refl _) _, one_setCell hn, heap_setCell_other _ _ _ _ (by show _ ≠ c; omega)⟩

/-- the remainders of the first k half bytes, zeros behind -/
def tbl (k : Nat) : List Value := (List.range 16).map fun n => .int .u32 (if n < k then (Crc.steps 4 n : Int) else 0)

theorem tbl_size (k : Nat) : (tbl k).toArray.size = 16 := by simp [tbl]
theorem tbl_next (k : Nat) : (tbl k).toArray.setIfInBounds k (.int .u32 (Crc.steps 4 k : Int)) = (tbl (k + 1)).toArray := by
  rw [List.setIfInBounds_toArray]
  congr 1
  apply List.ext_getElem
  · simp [tbl]
  · intro i h1 h2
    have hi : i < 16 := by simpa [tbl] using h2
    rw [List.getElem_set]
    by_cases h : k = i
    · subst h
      simp [tbl]
    · rw [if_neg h]
      by_cases h3 : i < k
      · simp [tbl, h3, show i < k + 1 by omega]
      · simp [tbl, h3, show ¬ i < k + 1 by omega]
theorem tbl_one : (tbl 16).toArray.all (·.oneCell') = true := by kernel_rfl
theorem zeros_tbl : (#[.int .u32 0, .int .u32 0, .int .u32 0, .int .u32 0, .int .u32 0, .int .u32 0, .int .u32 0, .int .u32 0, .int .u32 0, .int .u32 0, .int .u32 0, .int .u32 0, .int .u32 0, .int .u32 0, .int .u32 0, .int .u32 0] : Array Value) = (tbl 0).toArray := by kernel_rfl

theorem below_setRow {B g : Nat} {w wr : World} (h : Below B w wr) (hg : B ≤ g) (cs : Array Value) : Below B w (wr.setRow g cs) :=
  ⟨h.os, h.tape, h.output, by rw [size_setRow]; exact h.size, fun k hk => (setRow_other wr g k cs (by omega)).trans (h.block k hk)⟩

/-- remainders' three blocks: what it hands back, what is left, the row -/
structure Rem (w wr : World) (x : Nat) (k : Nat) : Prop where
  bel : Below w.heap.size w wr
  r0 : wr.heap[w.heap.size]? = some (.cells (tbl 0).toArray 60 (0, 0))
  r1 : wr.heap[w.heap.size + 1]? = some (.cells #[.int .u32 (x : Int)] 38 (0, 0))
  r2 : wr.heap[w.heap.size + 1 + 1]? = some (.cells (tbl k).toArray 60 (0, 0))

theorem Rem.start (w : World) : Rem w (((w.alloc (.cells (tbl 0).toArray 60)).alloc (.cells #[.int .u32 0] 38)).alloc (.cells (tbl 0).toArray 60)) 0 0 := by
  refine ⟨(((Below.refl _ _).alloc (Nat.le_refl _) _).alloc (by simp) _).alloc (by simp; omega) _, ?_, ?_, ?_⟩
  · rw [Below.heap_alloc _ _ _ (by simp; omega)]; exact heap_alloc2_old w _ _
  · rw [Below.heap_alloc _ _ _ (by simp)]; exact heap_alloc2_new w _ _
  · have := heap_alloc_new ((w.alloc (.cells (tbl 0).toArray 60)).alloc (.cells #[.int .u32 0] 38)) (.cells (tbl 0).toArray 60)
    simpa using this

theorem Rem.left {w wr : World} {x k : Nat} (h : Rem w wr x k) (y : Nat) : Rem w (wr.setCell ⟨w.heap.size + 1, 0, none⟩ (.int .u32 (y : Int))) y k :=
  ⟨h.bel.setCell (p := ⟨w.heap.size + 1, 0, none⟩) (by show _ ≤ w.heap.size + 1; omega) _, (heap_setCell_other _ _ _ _ (by show _ ≠ w.heap.size + 1; omega)).trans h.r0, one_setCell h.r1,
   (heap_setCell_other _ _ _ _ (by show _ ≠ w.heap.size + 1; omega)).trans h.r2⟩

theorem Rem.row {w wr : World} {k : Nat} (h : Rem w wr (Crc.steps 4 k) k) : Rem w (wr.setCell ⟨w.heap.size + 1 + 1, k, none⟩ (.int .u32 (Crc.steps 4 k : Int))) (Crc.steps 4 k) (k + 1) :=
  ⟨h.bel.setCell (p := ⟨w.heap.size + 1 + 1, k, none⟩) (by show _ ≤ w.heap.size + 1 + 1; omega) _, (heap_setCell_other _ _ _ _ (by show _ ≠ w.heap.size + 1 + 1; omega)).trans h.r0,
   (heap_setCell_other _ _ _ _ (by show _ ≠ w.heap.size + 1 + 1; omega)).trans h.r1, by rw [heap_setCell_same _ _ _ _ _ _ h.r2, tbl_next k]⟩

theorem Rem.div {w wr w1 : World} {x k : Nat} (h : Rem w wr x k) (hb : Below (w.heap.size + 1) wr w1) (h1 : w1.heap[w.heap.size + 1]? = some (.cells #[.int .u32 (Crc.step x : Int)] 38 (0, 0)))
    (h2 : w1.heap[w.heap.size + 1 + 1]? = wr.heap[w.heap.size + 1 + 1]?) : Rem w w1 (Crc.step x) k :=
  ⟨h.bel.trans (hb.mono (by omega)), (hb.block _ (by omega)).trans h.r0, h1, h2.trans h.r2⟩

set_option maxRecDepth 100000 in
set_option maxHeartbeats 1000000 in
theorem remainders_any (w : World) :
    Calls Try.prog 37 #[] w fun e w' => e = .returned (.agg (tbl 16).toArray) ∧ Below w.heap.size w w' := by
  go_enter Try.func37, Try.ntmps37
  go_wp2
  rw [zeros_tbl]
  go_loopw [6] (fun n wr => ∃ k x : Nat, k ≤ 16 ∧ n = .int .i64 (k : Int) ∧ Rem w wr x k) (fun n _ => 16 - (intOf n).toNat)
  case atStart => exact ⟨0, 0, by omega, rfl, Rem.start w⟩
  case round =>
    obtain ⟨k, x, hk, rfl, hrem⟩ := hrel
    by_cases h16 : k = 16
    · subst h16
      have hr2 := hrem.r2
      have hr0 := hrem.r0
      go_wp2_with (first | (refine wpList_load_row rfl 60 _ rfl (w.heap.size + 1 + 1) rfl 60 (tbl 16).toArray (0, 0) _ hr2 Try.underlying60 rfl (by rw [tbl_size]; kernel_rfl) ?_) | (refine wpList_store_row rfl 60 _ _ rfl w.heap.size (tbl 16).toArray rfl rfl 60 (tbl 0).toArray hr0 (by rw [tbl_size]; kernel_rfl) rfl tbl_one ?_))
      refine bodyPost_ret (v := .agg (tbl 16).toArray) (results_cell_row rfl _ _ w.heap.size 60 (tbl 16).toArray (0, 0) _ rfl (setRow_heap _ _ _ _ _ _ hr0) Try.underlying60 rfl (by rw [tbl_size]; kernel_rfl)) rfl ⟨rfl, below_setRow hrem.bel (Nat.le_refl _) _⟩
    · have hlt : k < 16 := by omega
      have hd : decide ((k : Int) < 16) = true := by simp; omega
      have c1 := cell_of_one hrem.r1
      have c2 := free_of_one hrem.r1
      go_wp2
      go_loopw [11] (fun j wq => ∃ i : Nat, i ≤ 4 ∧ j = .int .i64 (i : Int) ∧ Rem w wq (Crc.steps i k) k) (fun j _ => 4 - (intOf j).toNat)
      case atStart => exact ⟨0, by omega, rfl, hrem.left k⟩
      case round =>
        obtain ⟨i, hi, rfl, hq⟩ := hrel
        by_cases h4 : i = 4
        · subst h4
          have c1 := cell_of_one hq.r1
          have c3 := cell_of_row _ (w.heap.size + 1 + 1) k _ _ _ hq.r2
          have c4 := frozen_of_row _ (w.heap.size + 1 + 1) k _ _ hq.r2
          rw [List.getElem?_toArray, List.getElem?_eq_getElem (by simpa [tbl] using hlt)] at c3
          go_wp2
          go_roundw
          case rel => exact ⟨k + 1, _, by omega, by go_num, hq.row⟩
          case measure => simp [intOf]; omega
        · have hi4 : i < 4 := by omega
          go_wp2_with fail
          refine (div_any _ (Crc.steps i k) _ (Crc.steps_lt (by omega) i) hq.r1).mono ?_
          rintro e w1 ⟨rfl, hb1, h1, h2⟩
          have hq1 := hq.div hb1 h1 h2
          clear hb1 h1 h2
          go_wp2_with fail
          go_roundw
          case rel => exact ⟨i + 1, by omega, by go_num, hq1⟩
          case measure => simp [intOf]; omega

end Go.Proofs.Ytlebeegcdadgiaa
