/- The law CivilDays: its walk. -/
import Derived.Test.YtelbgpfhkahioaaDoorCivilKnown
namespace Go.Proofs.YtelbgpfhkahioaaDoor
open Go.RowKit

set_option maxRecDepth 100000 in
set_option maxHeartbeats 1000000 in
theorem civilDays_of (n y m d r : Int) (w : World) (hw : Mon w)
    (h1 : ∀ w, Mon w → Calls Tryd.prog 15 #[.int .i64 n] w fun e w' => e = .returned (.tuple #[.agg #[.int .i64 y, .int .i64 m, .int .i64 d], .int .i64 r]) ∧ Below w.heap.size w w')
    (h2 : ∀ w, Calls Tryd.prog 16 #[.int .i64 n] w fun e w' => e = .returned (.tuple #[.agg #[.int .i64 y, .int .i64 m, .int .i64 d], .int .i64 r]) ∧ Below w.heap.size w w') :
    Calls Tryd.prog 4 #[.int .i64 n] w fun e w' => e = .returned (.bool true) ∧ Below w.heap.size w w' := by
  have H1 := Lib.hid h1
  have H2 := Lib.hid h2
  have HM : Hid (∀ W, Below w.heap.size w W → Mon W) := fun W h => hw.below h hw.1
  clear hw h1 h2
  go_enter Tryd.func4, Tryd.ntmps4
  go_wp2_with fail
  with_reducible refine (H1.out _ (HM.out _ (Below.refl _ _))).mono ?_
  rintro e w1 ⟨rfl, b1⟩
  go_wp2_with fail
  have hrow2 : (w1.alloc (triple y m d)).heap[w1.heap.size]? = some (triple y m d) := heap_alloc_new w1 _
  have b2 : Below w.heap.size w (w1.alloc (triple y m d)) := b1.alloc b1.size _
  have hs2 : w1.heap.size < (w1.alloc (triple y m d)).heap.size := by simp
  unfold triple at hrow2 b2 hs2
  generalize w1.alloc (.cells #[.int .i64 y, .int .i64 m, .int .i64 d] 23) = w2 at *
  generalize w1.heap.size = g at *
  with_reducible refine (H2.out _).mono ?_
  rintro e w3 ⟨rfl, hb3⟩
  have b3 := b2.trans (hb3.mono b2.size)
  have hrow3 := (hb3.block _ hs2).trans hrow2
  have hs3 := Nat.lt_of_lt_of_le hs2 hb3.size
  clear hb3 b2 hrow2 hs2
  obtain ⟨c0, c1, c2⟩ := triple_cells hrow3
  have b4 := b3.alloc b3.size (.cells #[.int .i64 y, .int .i64 m, .int .i64 d] 23)
  go_wp2_with fail
  generalize w3.alloc (.cells #[.int .i64 y, .int .i64 m, .int .i64 d] 23) = w4 at *
  with_reducible refine (week_any n _).mono ?_
  rintro e w5 ⟨rfl, hb5⟩
  have b5 := b4.trans (hb5.mono b4.size)
  go_wp2_with fail
  with_reducible refine (refWeek_any n _).mono ?_
  rintro e w6 ⟨rfl, hb6⟩
  have b6 := b5.trans (hb6.mono b5.size)
  go_wp2_with fail
  with_reducible refine (known_any _ (HM.out _ b6)).mono ?_
  rintro e w7 ⟨rfl, hb7⟩
  have b7 := b6.trans (hb7.mono b6.size)
  go_wp2_with fail
  go_ret
  exact ⟨rfl, b7⟩

theorem civilDays_any (n : Int) (w : World) (hw : Mon w) (hmax : n ≤ 9223372036854775807) :
    Calls Tryd.prog 4 #[.int .i64 n] w fun e w' => e = .returned (.bool true) ∧ Below w.heap.size w w' := by
  by_cases hn : 0 ≤ n ∧ n < 157054
  · obtain ⟨y, m, d, hmay, rfl⟩ := Cal.num_onto n hn.1 hn.2
    exact civilDays_of _ y m d 0 w hw (fun w hw => of_in y m d w hw hmay) (fun w => refOf_in y m d w hmay)
  · exact civilDays_of n 0 0 0 2 w hw (fun w _ => of_out n w (by omega)) (fun w => refOf_out n w (by omega) hmax)
end Go.Proofs.YtelbgpfhkahioaaDoor
