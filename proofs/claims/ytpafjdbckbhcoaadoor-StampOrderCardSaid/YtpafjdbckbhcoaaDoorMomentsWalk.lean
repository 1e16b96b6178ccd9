/- The laws StampMoments and StampClocks: their walks. -/
import Derived.Test.YtpafjdbckbhcoaaDoorStampKnown
namespace Go.Proofs.YtpafjdbckbhcoaaDoor
open Go.RowKit

theorem addOf_told (t n : Int) : ∃ r e, addOf t n = .tuple #[.int .i64 r, .int .i64 e] := by
  by_cases h : 0 ≤ t ∧ t < 13569465600 ∧ 0 ≤ t + n ∧ t + n < 13569465600
  · exact ⟨_, _, addOf_in h⟩
  · exact ⟨_, _, addOf_out h⟩

set_option maxRecDepth 100000 in
set_option maxHeartbeats 4000000 in
theorem stampMoments_in (t n : Int) (w : World) (hw : Mon w) (hp : Pow w) (h0 : 0 ≤ t) (h1 : t < 13569465600) :
    Calls Tryd.prog 3 #[.int .i64 t, .int .i64 n] w fun e w' => e = .returned (.bool true) ∧ Below w.heap.size w w' := by
  have HM := MonOn.of hw
  have HP := PowOn.of hp
  obtain ⟨y, m, d, h, i, s, k, hmay, hn⟩ := Stm.onto t h0 h1
  have H1 : Hid (∀ w, Mon w → Calls Tryd.prog 6 #[.int .i64 t] w fun e w' => e = .returned (.tuple #[.agg #[.int .i64 y, .int .i64 m, .int .i64 d, .int .i64 h, .int .i64 i, .int .i64 s, .int .i64 k], .int .i64 0]) ∧ Below w.heap.size w w') := fun w hw => by rw [← hn]; exact split_in y m d h i s k w hw hmay
  have H2 : Hid (∀ w, Calls Tryd.prog 7 #[.int .i64 t] w fun e w' => e = .returned (.tuple #[.agg #[.int .i64 y, .int .i64 m, .int .i64 d, .int .i64 h, .int .i64 i, .int .i64 s, .int .i64 k], .int .i64 0]) ∧ Below w.heap.size w w') := fun w => by rw [← hn]; exact refSplit_in y m d h i s k w hmay
  obtain ⟨r, x, hr⟩ := addOf_told t n
  have H3 : Hid (∀ w, Calls Tryd.prog 8 #[.int .i64 t, .int .i64 n] w fun e w' => e = .returned (.tuple #[.int .i64 r, .int .i64 x]) ∧ Below w.heap.size w w') := fun w => by rw [← hr]; exact add_any t n w
  have H4 : Hid (∀ w, Calls Tryd.prog 9 #[.int .i64 t, .int .i64 n] w fun e w' => e = .returned (.tuple #[.int .i64 r, .int .i64 x]) ∧ Below w.heap.size w w') := fun w => by rw [← hr]; exact refAdd_any t n w
  have H5 : Hid (∀ w, Calls Tryd.prog 10 #[.int .i64 t] w fun e w' => e = .returned (.tuple #[.int .i64 (t / 60 * 60), .int .i64 0]) ∧ Below w.heap.size w w') := fun w => by rw [show t / 60 * 60 = t - t % 60 by omega]; exact floor_in t w h0 h1
  clear hw hp hr hn hmay
  go_enter Tryd.func3, Tryd.ntmps3
  go_wp2_with fail
  with_reducible refine (H1.out _ (HM.on (Below.refl _ _))).mono ?_
  rintro e w1 ⟨rfl, b1⟩
  have oa := Own.newAt b1 y m d h i s k
  go_wp2_with fail
  generalize w1.alloc (.cells #[.int .i64 y, .int .i64 m, .int .i64 d, .int .i64 h, .int .i64 i, .int .i64 s, .int .i64 k] 25) = w2 at *
  generalize w1.heap.size = E at *
  with_reducible refine (H2.out _).mono ?_
  rintro e w3 ⟨rfl, hb⟩
  have ob := Own.newAt (oa.below hb).bel y m d h i s k
  have oa := (oa.below hb).alloc (.cells #[.int .i64 y, .int .i64 m, .int .i64 d, .int .i64 h, .int .i64 i, .int .i64 s, .int .i64 k] 25)
  clear hb
  go_wp2_with fail
  generalize w3.alloc (.cells #[.int .i64 y, .int .i64 m, .int .i64 d, .int .i64 h, .int .i64 i, .int .i64 s, .int .i64 k] 25) = w4 at *
  generalize w3.heap.size = F at *
  with_reducible refine (H3.out _).mono ?_
  rintro e w5 ⟨rfl, hb⟩
  have oa := oa.below hb
  have ob := ob.below hb
  clear hb
  go_wp2_with fail
  with_reducible refine (H4.out _).mono ?_
  rintro e w6 ⟨rfl, hb⟩
  have oa := oa.below hb
  have ob := ob.below hb
  clear hb
  go_wp2_with fail
  with_reducible refine (H5.out _).mono ?_
  rintro e w7 ⟨rfl, hb⟩
  have oa := oa.below hb
  have ob := ob.below hb
  obtain ⟨c0, c1, c2, c3, c4, c5, c6⟩ := clk_cells oa.row
  obtain ⟨d0, d1, d2, d3, d4, d5, d6⟩ := clk_cells ob.row
  clear hb
  go_wp2_with fail
  with_reducible refine (knownS_any _ (HM.on oa.bel) (HP.on oa.bel)).mono ?_
  rintro e w8 ⟨rfl, hb⟩
  have oa := oa.below hb
  clear c0 c1 c2 c3 c4 c5 c6 d0 d1 d2 d3 d4 d5 d6 hb
  go_wp2_with fail
  go_ret
  exact ⟨rfl, oa.bel⟩

set_option maxRecDepth 100000 in
set_option maxHeartbeats 4000000 in
theorem stampMoments_out (t n : Int) (w : World) (hw : Mon w) (hp : Pow w) (ht : t < 0 ∨ 13569465600 ≤ t) :
    Calls Tryd.prog 3 #[.int .i64 t, .int .i64 n] w fun e w' => e = .returned (.bool true) ∧ Below w.heap.size w w' := by
  have HM := MonOn.of hw
  have HP := PowOn.of hp
  have H1 : Hid (∀ w, Calls Tryd.prog 6 #[.int .i64 t] w fun e w' => e = .returned (.tuple #[.agg #[.int .i64 0, .int .i64 0, .int .i64 0, .int .i64 0, .int .i64 0, .int .i64 0, .int .i64 0], .int .i64 50]) ∧ Below w.heap.size w w') := fun w => split_out t w ht
  have H2 : Hid (∀ w, Calls Tryd.prog 7 #[.int .i64 t] w fun e w' => e = .returned (.tuple #[.agg #[.int .i64 0, .int .i64 0, .int .i64 0, .int .i64 0, .int .i64 0, .int .i64 0, .int .i64 0], .int .i64 50]) ∧ Below w.heap.size w w') := fun w => refSplit_out t w ht
  obtain ⟨r, x, hr⟩ := addOf_told t n
  have H3 : Hid (∀ w, Calls Tryd.prog 8 #[.int .i64 t, .int .i64 n] w fun e w' => e = .returned (.tuple #[.int .i64 r, .int .i64 x]) ∧ Below w.heap.size w w') := fun w => by rw [← hr]; exact add_any t n w
  have H4 : Hid (∀ w, Calls Tryd.prog 9 #[.int .i64 t, .int .i64 n] w fun e w' => e = .returned (.tuple #[.int .i64 r, .int .i64 x]) ∧ Below w.heap.size w w') := fun w => by rw [← hr]; exact refAdd_any t n w
  have H5 : Hid (∀ w, Calls Tryd.prog 10 #[.int .i64 t] w fun e w' => e = .returned (.tuple #[.int .i64 0, .int .i64 50]) ∧ Below w.heap.size w w') := fun w => floor_out t w ht
  clear hw hp hr ht
  go_enter Tryd.func3, Tryd.ntmps3
  go_wp2_with fail
  with_reducible refine (H1.out _).mono ?_
  rintro e w1 ⟨rfl, b1⟩
  have oa := Own.newAt b1 0 0 0 0 0 0 0
  go_wp2_with fail
  generalize w1.alloc (.cells #[.int .i64 0, .int .i64 0, .int .i64 0, .int .i64 0, .int .i64 0, .int .i64 0, .int .i64 0] 25) = w2 at *
  generalize w1.heap.size = E at *
  with_reducible refine (H2.out _).mono ?_
  rintro e w3 ⟨rfl, hb⟩
  have ob := Own.newAt (oa.below hb).bel 0 0 0 0 0 0 0
  have oa := (oa.below hb).alloc (.cells #[.int .i64 0, .int .i64 0, .int .i64 0, .int .i64 0, .int .i64 0, .int .i64 0, .int .i64 0] 25)
  clear hb
  go_wp2_with fail
  generalize w3.alloc (.cells #[.int .i64 0, .int .i64 0, .int .i64 0, .int .i64 0, .int .i64 0, .int .i64 0, .int .i64 0] 25) = w4 at *
  generalize w3.heap.size = F at *
  with_reducible refine (H3.out _).mono ?_
  rintro e w5 ⟨rfl, hb⟩
  have oa := oa.below hb
  have ob := ob.below hb
  clear hb
  go_wp2_with fail
  with_reducible refine (H4.out _).mono ?_
  rintro e w6 ⟨rfl, hb⟩
  have oa := oa.below hb
  have ob := ob.below hb
  clear hb
  go_wp2_with fail
  with_reducible refine (H5.out _).mono ?_
  rintro e w7 ⟨rfl, hb⟩
  have oa := oa.below hb
  have ob := ob.below hb
  obtain ⟨c0, c1, c2, c3, c4, c5, c6⟩ := clk_cells oa.row
  obtain ⟨d0, d1, d2, d3, d4, d5, d6⟩ := clk_cells ob.row
  clear hb
  go_wp2_with fail
  with_reducible refine (knownS_any _ (HM.on oa.bel) (HP.on oa.bel)).mono ?_
  rintro e w8 ⟨rfl, hb⟩
  have oa := oa.below hb
  clear c0 c1 c2 c3 c4 c5 c6 d0 d1 d2 d3 d4 d5 d6 hb
  go_wp2_with fail
  go_ret
  exact ⟨rfl, oa.bel⟩

theorem stampMoments_any (t n : Int) (w : World) (hw : Mon w) (hp : Pow w) :
    Calls Tryd.prog 3 #[.int .i64 t, .int .i64 n] w fun e w' => e = .returned (.bool true) ∧ Below w.heap.size w w' := by
  by_cases ht : t < 0 ∨ 13569465600 ≤ t
  · exact stampMoments_out t n w hw hp ht
  · exact stampMoments_in t n w hw hp (by omega) (by omega)
end Go.Proofs.YtpafjdbckbhcoaaDoor
