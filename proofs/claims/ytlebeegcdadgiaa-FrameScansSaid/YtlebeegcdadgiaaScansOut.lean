/- The law FrameScans, of more bytes than it speaks of. -/
import Derived.Test.YtlebeegcdadgiaaScansWalk
namespace Go.Proofs.Ytlebeegcdadgiaa
open Go.RowKit

set_option maxRecDepth 100000 in
set_option maxHeartbeats 1000000 in
theorem scans_out (a : Option Addr) (len cap : Nat) (left : Int) (w : World) (h : 600 < len) (hm : len ≤ 9223372036854775807) :
    Calls Try.prog 4 #[.slice a len cap, .int .i64 left] w fun e w' => e = .returned (.bool true) ∧ Below w.heap.size w w' := by
  obtain ⟨w0, hw0⟩ : ∃ w0, w0 = boxed3 w a len cap left := ⟨_, rfl⟩
  have hs0 : w0.heap.size = w.heap.size + 3 := by rw [hw0]; exact boxed3_size _ _ _ _ _
  have hb0 : Below w.heap.size w w0 := by rw [hw0]; exact boxed3_below _ _ _ _ _
  have hat : ∀ W, Below (w.heap.size + 3) w0 W → Boxed W w.heap.size 22 (.slice a len cap) ∧ Boxed W (w.heap.size + 1) 3 (.int .i64 left) ∧ Boxed W (w.heap.size + 1 + 1) 4 (.bool false) := fun W h => by
    rw [hw0] at h
    exact boxed3_at h
  have HAT := Lib.hid hat
  have HW0 := Lib.hid hw0
  clear hat hw0
  go_enter Try.func4, Try.ntmps4
  go_wp2_with fail
  have hfold : ((w.alloc (.cells #[.slice a len cap] 22)).alloc (.cells #[.int .i64 left] 3)).alloc (.cells #[.bool false] 4) = w0 := HW0.out.symm
  rw [hfold]
  refine (known_any w0).mono ?_
  rintro e w1 ⟨rfl, hb1⟩
  rw [hs0] at hb1
  have g1 := (HAT.out w1 hb1).1.cell
  have g2 := (HAT.out w1 hb1).2.2.cell
  have g3 := (HAT.out w1 hb1).2.2.frozen
  have hset := Boxed.set (.bool true) (HAT.out w1 hb1).2.2
  have d1 := hset.cell
  have HB := Lib.hid ((hb0.trans (hb1.mono (by omega))).setCell (p := ⟨w.heap.size + 1 + 1, 0, none⟩) (by show w.heap.size ≤ w.heap.size + 1 + 1; omega) (.bool true))
  clear hfold hset hb1 hb0
  go_wp2_with fail
  exact bodyPost_ret (v := .bool true) (by simp [results, Try.results4, go_sem, d1]) rfl ⟨rfl, HB.out⟩

end Go.Proofs.Ytlebeegcdadgiaa
