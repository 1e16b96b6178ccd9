/- The law StampOrder: its walk. -/
import Derived.Test.YtpafjdbckbhcoaaDoorClocksWalk
import Derived.Test.YtpafjdbckbhcoaaDoorStmOrder
namespace Go.Proofs.YtpafjdbckbhcoaaDoor
open Go.RowKit

theorem split_some (t : Int) (h0 : 0 ≤ t) (h1 : t < 13569465600) : ∃ y m d h i x k, Stm.may y m d h i x k ∧ Stm.num y m d h i x = t := Stm.onto t h0 h1

set_option maxRecDepth 100000 in
set_option maxHeartbeats 4000000 in
theorem stampOrder_in_low (S T which by_ : Int) (w : World) (hw : Mon w) (hp : Pow w) (p0 : 0 ≤ S) (p1 : S < 13569465600) (q0 : T < 0) :
    Calls Tryd.prog 5 #[.int .i64 S, .int .i64 T, .int .i64 which, .int .i64 by_] w fun e w' => e = .returned (.bool true) ∧ Below w.heap.size w w' := by
  have HM := MonOn.of hw
  have HP := PowOn.of hp
  obtain ⟨y, m, d, h, i, x, k, hmay, hn⟩ := Stm.onto S p0 p1
  have H1 : Hid (∀ w, Mon w → Calls Tryd.prog 6 #[.int .i64 S] w fun e w' => e = .returned (.tuple #[.agg #[.int .i64 y, .int .i64 m, .int .i64 d, .int .i64 h, .int .i64 i, .int .i64 x, .int .i64 k], .int .i64 0]) ∧ Below w.heap.size w w') := fun w hw => by rw [← hn]; exact split_in y m d h i x k w hw hmay
  clear hmay hn
  have H2 : Hid (∀ w, Mon w → Calls Tryd.prog 6 #[.int .i64 T] w fun e w' => e = .returned (.tuple #[.agg #[.int .i64 0, .int .i64 0, .int .i64 0, .int .i64 0, .int .i64 0, .int .i64 0, .int .i64 0], .int .i64 50]) ∧ Below w.heap.size w w') := fun w _ => split_out T w (by omega)
  have g1 : decide (0 ≤ S) = true := by simp; omega
  have g1' : decide (S < 13569465600) = true := by simp; omega
  have g2 : decide (0 ≤ T) = false := by simp; omega
  clear hw hp
  go_enter Tryd.func5, Tryd.ntmps5
  go_wp2_with fail
  with_reducible refine (knownS_any _ (HM.on (Below.refl _ _)) (HP.on (Below.refl _ _))).mono ?_
  rintro e w0 ⟨rfl, b0⟩
  go_wp2_with fail
  with_reducible refine (H1.out _ (HM.on b0)).mono ?_
  rintro e w1 ⟨rfl, hb⟩
  have b1 := b0.trans (hb.mono b0.size)
  have oa := Own.newAt b1 y m d h i x k
  clear hb b0 b1
  go_wp2_with fail
  generalize w1.alloc (.cells #[.int .i64 y, .int .i64 m, .int .i64 d, .int .i64 h, .int .i64 i, .int .i64 x, .int .i64 k] 25) = w2 at *
  generalize w1.heap.size = E at *
  with_reducible refine (H2.out _ (HM.on oa.bel)).mono ?_
  rintro e w3 ⟨rfl, hb⟩
  have hEF : E ≠ w3.heap.size := Nat.ne_of_lt (Nat.lt_of_lt_of_le oa.siz hb.size)
  have ob := Own.newAt (oa.below hb).bel 0 0 0 0 0 0 0
  have oa := (oa.below hb).alloc (.cells #[.int .i64 0, .int .i64 0, .int .i64 0, .int .i64 0, .int .i64 0, .int .i64 0, .int .i64 0] 25)
  clear hb
  go_wp2_with fail
  go_ret
  exact ⟨rfl, oa.bel⟩

set_option maxRecDepth 100000 in
set_option maxHeartbeats 4000000 in
theorem stampOrder_in_high (S T which by_ : Int) (w : World) (hw : Mon w) (hp : Pow w) (p0 : 0 ≤ S) (p1 : S < 13569465600) (q0 : 13569465600 ≤ T) :
    Calls Tryd.prog 5 #[.int .i64 S, .int .i64 T, .int .i64 which, .int .i64 by_] w fun e w' => e = .returned (.bool true) ∧ Below w.heap.size w w' := by
  have HM := MonOn.of hw
  have HP := PowOn.of hp
  obtain ⟨y, m, d, h, i, x, k, hmay, hn⟩ := Stm.onto S p0 p1
  have H1 : Hid (∀ w, Mon w → Calls Tryd.prog 6 #[.int .i64 S] w fun e w' => e = .returned (.tuple #[.agg #[.int .i64 y, .int .i64 m, .int .i64 d, .int .i64 h, .int .i64 i, .int .i64 x, .int .i64 k], .int .i64 0]) ∧ Below w.heap.size w w') := fun w hw => by rw [← hn]; exact split_in y m d h i x k w hw hmay
  clear hmay hn
  have H2 : Hid (∀ w, Mon w → Calls Tryd.prog 6 #[.int .i64 T] w fun e w' => e = .returned (.tuple #[.agg #[.int .i64 0, .int .i64 0, .int .i64 0, .int .i64 0, .int .i64 0, .int .i64 0, .int .i64 0], .int .i64 50]) ∧ Below w.heap.size w w') := fun w _ => split_out T w (by omega)
  have g1 : decide (0 ≤ S) = true := by simp; omega
  have g1' : decide (S < 13569465600) = true := by simp; omega
  have g2 : decide (0 ≤ T) = true := by simp; omega
  have g2' : decide (T < 13569465600) = false := by simp; omega
  clear hw hp
  go_enter Tryd.func5, Tryd.ntmps5
  go_wp2_with fail
  with_reducible refine (knownS_any _ (HM.on (Below.refl _ _)) (HP.on (Below.refl _ _))).mono ?_
  rintro e w0 ⟨rfl, b0⟩
  go_wp2_with fail
  with_reducible refine (H1.out _ (HM.on b0)).mono ?_
  rintro e w1 ⟨rfl, hb⟩
  have b1 := b0.trans (hb.mono b0.size)
  have oa := Own.newAt b1 y m d h i x k
  clear hb b0 b1
  go_wp2_with fail
  generalize w1.alloc (.cells #[.int .i64 y, .int .i64 m, .int .i64 d, .int .i64 h, .int .i64 i, .int .i64 x, .int .i64 k] 25) = w2 at *
  generalize w1.heap.size = E at *
  with_reducible refine (H2.out _ (HM.on oa.bel)).mono ?_
  rintro e w3 ⟨rfl, hb⟩
  have hEF : E ≠ w3.heap.size := Nat.ne_of_lt (Nat.lt_of_lt_of_le oa.siz hb.size)
  have ob := Own.newAt (oa.below hb).bel 0 0 0 0 0 0 0
  have oa := (oa.below hb).alloc (.cells #[.int .i64 0, .int .i64 0, .int .i64 0, .int .i64 0, .int .i64 0, .int .i64 0, .int .i64 0] 25)
  clear hb
  go_wp2_with fail
  go_ret
  exact ⟨rfl, oa.bel⟩

set_option maxRecDepth 100000 in
set_option maxHeartbeats 4000000 in
theorem stampOrder_low_in (S T which by_ : Int) (w : World) (hw : Mon w) (hp : Pow w) (p0 : S < 0) (q0 : 0 ≤ T) (q1 : T < 13569465600) :
    Calls Tryd.prog 5 #[.int .i64 S, .int .i64 T, .int .i64 which, .int .i64 by_] w fun e w' => e = .returned (.bool true) ∧ Below w.heap.size w w' := by
  have HM := MonOn.of hw
  have HP := PowOn.of hp
  have H1 : Hid (∀ w, Mon w → Calls Tryd.prog 6 #[.int .i64 S] w fun e w' => e = .returned (.tuple #[.agg #[.int .i64 0, .int .i64 0, .int .i64 0, .int .i64 0, .int .i64 0, .int .i64 0, .int .i64 0], .int .i64 50]) ∧ Below w.heap.size w w') := fun w _ => split_out S w (by omega)
  obtain ⟨y', m', d', h', i', x', k', hmay, hn⟩ := Stm.onto T q0 q1
  have H2 : Hid (∀ w, Mon w → Calls Tryd.prog 6 #[.int .i64 T] w fun e w' => e = .returned (.tuple #[.agg #[.int .i64 y', .int .i64 m', .int .i64 d', .int .i64 h', .int .i64 i', .int .i64 x', .int .i64 k'], .int .i64 0]) ∧ Below w.heap.size w w') := fun w hw => by rw [← hn]; exact split_in y' m' d' h' i' x' k' w hw hmay
  clear hmay hn
  have g1 : decide (0 ≤ S) = false := by simp; omega
  have g2 : decide (0 ≤ T) = true := by simp; omega
  have g2' : decide (T < 13569465600) = true := by simp; omega
  clear hw hp
  go_enter Tryd.func5, Tryd.ntmps5
  go_wp2_with fail
  with_reducible refine (knownS_any _ (HM.on (Below.refl _ _)) (HP.on (Below.refl _ _))).mono ?_
  rintro e w0 ⟨rfl, b0⟩
  go_wp2_with fail
  with_reducible refine (H1.out _ (HM.on b0)).mono ?_
  rintro e w1 ⟨rfl, hb⟩
  have b1 := b0.trans (hb.mono b0.size)
  have oa := Own.newAt b1 0 0 0 0 0 0 0
  clear hb b0 b1
  go_wp2_with fail
  generalize w1.alloc (.cells #[.int .i64 0, .int .i64 0, .int .i64 0, .int .i64 0, .int .i64 0, .int .i64 0, .int .i64 0] 25) = w2 at *
  generalize w1.heap.size = E at *
  with_reducible refine (H2.out _ (HM.on oa.bel)).mono ?_
  rintro e w3 ⟨rfl, hb⟩
  have hEF : E ≠ w3.heap.size := Nat.ne_of_lt (Nat.lt_of_lt_of_le oa.siz hb.size)
  have ob := Own.newAt (oa.below hb).bel y' m' d' h' i' x' k'
  have oa := (oa.below hb).alloc (.cells #[.int .i64 y', .int .i64 m', .int .i64 d', .int .i64 h', .int .i64 i', .int .i64 x', .int .i64 k'] 25)
  clear hb
  go_wp2_with fail
  go_ret
  exact ⟨rfl, oa.bel⟩

set_option maxRecDepth 100000 in
set_option maxHeartbeats 4000000 in
theorem stampOrder_low_low (S T which by_ : Int) (w : World) (hw : Mon w) (hp : Pow w) (p0 : S < 0) (q0 : T < 0) :
    Calls Tryd.prog 5 #[.int .i64 S, .int .i64 T, .int .i64 which, .int .i64 by_] w fun e w' => e = .returned (.bool true) ∧ Below w.heap.size w w' := by
  have HM := MonOn.of hw
  have HP := PowOn.of hp
  have H1 : Hid (∀ w, Mon w → Calls Tryd.prog 6 #[.int .i64 S] w fun e w' => e = .returned (.tuple #[.agg #[.int .i64 0, .int .i64 0, .int .i64 0, .int .i64 0, .int .i64 0, .int .i64 0, .int .i64 0], .int .i64 50]) ∧ Below w.heap.size w w') := fun w _ => split_out S w (by omega)
  have H2 : Hid (∀ w, Mon w → Calls Tryd.prog 6 #[.int .i64 T] w fun e w' => e = .returned (.tuple #[.agg #[.int .i64 0, .int .i64 0, .int .i64 0, .int .i64 0, .int .i64 0, .int .i64 0, .int .i64 0], .int .i64 50]) ∧ Below w.heap.size w w') := fun w _ => split_out T w (by omega)
  have g1 : decide (0 ≤ S) = false := by simp; omega
  have g2 : decide (0 ≤ T) = false := by simp; omega
  clear hw hp
  go_enter Tryd.func5, Tryd.ntmps5
  go_wp2_with fail
  with_reducible refine (knownS_any _ (HM.on (Below.refl _ _)) (HP.on (Below.refl _ _))).mono ?_
  rintro e w0 ⟨rfl, b0⟩
  go_wp2_with fail
  with_reducible refine (H1.out _ (HM.on b0)).mono ?_
  rintro e w1 ⟨rfl, hb⟩
  have b1 := b0.trans (hb.mono b0.size)
  have oa := Own.newAt b1 0 0 0 0 0 0 0
  clear hb b0 b1
  go_wp2_with fail
  generalize w1.alloc (.cells #[.int .i64 0, .int .i64 0, .int .i64 0, .int .i64 0, .int .i64 0, .int .i64 0, .int .i64 0] 25) = w2 at *
  generalize w1.heap.size = E at *
  with_reducible refine (H2.out _ (HM.on oa.bel)).mono ?_
  rintro e w3 ⟨rfl, hb⟩
  have hEF : E ≠ w3.heap.size := Nat.ne_of_lt (Nat.lt_of_lt_of_le oa.siz hb.size)
  have ob := Own.newAt (oa.below hb).bel 0 0 0 0 0 0 0
  have oa := (oa.below hb).alloc (.cells #[.int .i64 0, .int .i64 0, .int .i64 0, .int .i64 0, .int .i64 0, .int .i64 0, .int .i64 0] 25)
  clear hb
  go_wp2_with fail
  go_ret
  exact ⟨rfl, oa.bel⟩

set_option maxRecDepth 100000 in
set_option maxHeartbeats 4000000 in
theorem stampOrder_low_high (S T which by_ : Int) (w : World) (hw : Mon w) (hp : Pow w) (p0 : S < 0) (q0 : 13569465600 ≤ T) :
    Calls Tryd.prog 5 #[.int .i64 S, .int .i64 T, .int .i64 which, .int .i64 by_] w fun e w' => e = .returned (.bool true) ∧ Below w.heap.size w w' := by
  have HM := MonOn.of hw
  have HP := PowOn.of hp
  have H1 : Hid (∀ w, Mon w → Calls Tryd.prog 6 #[.int .i64 S] w fun e w' => e = .returned (.tuple #[.agg #[.int .i64 0, .int .i64 0, .int .i64 0, .int .i64 0, .int .i64 0, .int .i64 0, .int .i64 0], .int .i64 50]) ∧ Below w.heap.size w w') := fun w _ => split_out S w (by omega)
  have H2 : Hid (∀ w, Mon w → Calls Tryd.prog 6 #[.int .i64 T] w fun e w' => e = .returned (.tuple #[.agg #[.int .i64 0, .int .i64 0, .int .i64 0, .int .i64 0, .int .i64 0, .int .i64 0, .int .i64 0], .int .i64 50]) ∧ Below w.heap.size w w') := fun w _ => split_out T w (by omega)
  have g1 : decide (0 ≤ S) = false := by simp; omega
  have g2 : decide (0 ≤ T) = true := by simp; omega
  have g2' : decide (T < 13569465600) = false := by simp; omega
  clear hw hp
  go_enter Tryd.func5, Tryd.ntmps5
  go_wp2_with fail
  with_reducible refine (knownS_any _ (HM.on (Below.refl _ _)) (HP.on (Below.refl _ _))).mono ?_
  rintro e w0 ⟨rfl, b0⟩
  go_wp2_with fail
  with_reducible refine (H1.out _ (HM.on b0)).mono ?_
  rintro e w1 ⟨rfl, hb⟩
  have b1 := b0.trans (hb.mono b0.size)
  have oa := Own.newAt b1 0 0 0 0 0 0 0
  clear hb b0 b1
  go_wp2_with fail
  generalize w1.alloc (.cells #[.int .i64 0, .int .i64 0, .int .i64 0, .int .i64 0, .int .i64 0, .int .i64 0, .int .i64 0] 25) = w2 at *
  generalize w1.heap.size = E at *
  with_reducible refine (H2.out _ (HM.on oa.bel)).mono ?_
  rintro e w3 ⟨rfl, hb⟩
  have hEF : E ≠ w3.heap.size := Nat.ne_of_lt (Nat.lt_of_lt_of_le oa.siz hb.size)
  have ob := Own.newAt (oa.below hb).bel 0 0 0 0 0 0 0
  have oa := (oa.below hb).alloc (.cells #[.int .i64 0, .int .i64 0, .int .i64 0, .int .i64 0, .int .i64 0, .int .i64 0, .int .i64 0] 25)
  clear hb
  go_wp2_with fail
  go_ret
  exact ⟨rfl, oa.bel⟩

set_option maxRecDepth 100000 in
set_option maxHeartbeats 4000000 in
theorem stampOrder_high_in (S T which by_ : Int) (w : World) (hw : Mon w) (hp : Pow w) (p0 : 13569465600 ≤ S) (q0 : 0 ≤ T) (q1 : T < 13569465600) :
    Calls Tryd.prog 5 #[.int .i64 S, .int .i64 T, .int .i64 which, .int .i64 by_] w fun e w' => e = .returned (.bool true) ∧ Below w.heap.size w w' := by
  have HM := MonOn.of hw
  have HP := PowOn.of hp
  have H1 : Hid (∀ w, Mon w → Calls Tryd.prog 6 #[.int .i64 S] w fun e w' => e = .returned (.tuple #[.agg #[.int .i64 0, .int .i64 0, .int .i64 0, .int .i64 0, .int .i64 0, .int .i64 0, .int .i64 0], .int .i64 50]) ∧ Below w.heap.size w w') := fun w _ => split_out S w (by omega)
  obtain ⟨y', m', d', h', i', x', k', hmay, hn⟩ := Stm.onto T q0 q1
  have H2 : Hid (∀ w, Mon w → Calls Tryd.prog 6 #[.int .i64 T] w fun e w' => e = .returned (.tuple #[.agg #[.int .i64 y', .int .i64 m', .int .i64 d', .int .i64 h', .int .i64 i', .int .i64 x', .int .i64 k'], .int .i64 0]) ∧ Below w.heap.size w w') := fun w hw => by rw [← hn]; exact split_in y' m' d' h' i' x' k' w hw hmay
  clear hmay hn
  have g1 : decide (0 ≤ S) = true := by simp; omega
  have g1' : decide (S < 13569465600) = false := by simp; omega
  have g2 : decide (0 ≤ T) = true := by simp; omega
  have g2' : decide (T < 13569465600) = true := by simp; omega
  clear hw hp
  go_enter Tryd.func5, Tryd.ntmps5
  go_wp2_with fail
  with_reducible refine (knownS_any _ (HM.on (Below.refl _ _)) (HP.on (Below.refl _ _))).mono ?_
  rintro e w0 ⟨rfl, b0⟩
  go_wp2_with fail
  with_reducible refine (H1.out _ (HM.on b0)).mono ?_
  rintro e w1 ⟨rfl, hb⟩
  have b1 := b0.trans (hb.mono b0.size)
  have oa := Own.newAt b1 0 0 0 0 0 0 0
  clear hb b0 b1
  go_wp2_with fail
  generalize w1.alloc (.cells #[.int .i64 0, .int .i64 0, .int .i64 0, .int .i64 0, .int .i64 0, .int .i64 0, .int .i64 0] 25) = w2 at *
  generalize w1.heap.size = E at *
  with_reducible refine (H2.out _ (HM.on oa.bel)).mono ?_
  rintro e w3 ⟨rfl, hb⟩
  have hEF : E ≠ w3.heap.size := Nat.ne_of_lt (Nat.lt_of_lt_of_le oa.siz hb.size)
  have ob := Own.newAt (oa.below hb).bel y' m' d' h' i' x' k'
  have oa := (oa.below hb).alloc (.cells #[.int .i64 y', .int .i64 m', .int .i64 d', .int .i64 h', .int .i64 i', .int .i64 x', .int .i64 k'] 25)
  clear hb
  go_wp2_with fail
  go_ret
  exact ⟨rfl, oa.bel⟩

set_option maxRecDepth 100000 in
set_option maxHeartbeats 4000000 in
theorem stampOrder_high_low (S T which by_ : Int) (w : World) (hw : Mon w) (hp : Pow w) (p0 : 13569465600 ≤ S) (q0 : T < 0) :
    Calls Tryd.prog 5 #[.int .i64 S, .int .i64 T, .int .i64 which, .int .i64 by_] w fun e w' => e = .returned (.bool true) ∧ Below w.heap.size w w' := by
  have HM := MonOn.of hw
  have HP := PowOn.of hp
  have H1 : Hid (∀ w, Mon w → Calls Tryd.prog 6 #[.int .i64 S] w fun e w' => e = .returned (.tuple #[.agg #[.int .i64 0, .int .i64 0, .int .i64 0, .int .i64 0, .int .i64 0, .int .i64 0, .int .i64 0], .int .i64 50]) ∧ Below w.heap.size w w') := fun w _ => split_out S w (by omega)
  have H2 : Hid (∀ w, Mon w → Calls Tryd.prog 6 #[.int .i64 T] w fun e w' => e = .returned (.tuple #[.agg #[.int .i64 0, .int .i64 0, .int .i64 0, .int .i64 0, .int .i64 0, .int .i64 0, .int .i64 0], .int .i64 50]) ∧ Below w.heap.size w w') := fun w _ => split_out T w (by omega)
  have g1 : decide (0 ≤ S) = true := by simp; omega
  have g1' : decide (S < 13569465600) = false := by simp; omega
  have g2 : decide (0 ≤ T) = false := by simp; omega
  clear hw hp
  go_enter Tryd.func5, Tryd.ntmps5
  go_wp2_with fail
  with_reducible refine (knownS_any _ (HM.on (Below.refl _ _)) (HP.on (Below.refl _ _))).mono ?_
  rintro e w0 ⟨rfl, b0⟩
  go_wp2_with fail
  with_reducible refine (H1.out _ (HM.on b0)).mono ?_
  rintro e w1 ⟨rfl, hb⟩
  have b1 := b0.trans (hb.mono b0.size)
  have oa := Own.newAt b1 0 0 0 0 0 0 0
  clear hb b0 b1
  go_wp2_with fail
  generalize w1.alloc (.cells #[.int .i64 0, .int .i64 0, .int .i64 0, .int .i64 0, .int .i64 0, .int .i64 0, .int .i64 0] 25) = w2 at *
  generalize w1.heap.size = E at *
  with_reducible refine (H2.out _ (HM.on oa.bel)).mono ?_
  rintro e w3 ⟨rfl, hb⟩
  have hEF : E ≠ w3.heap.size := Nat.ne_of_lt (Nat.lt_of_lt_of_le oa.siz hb.size)
  have ob := Own.newAt (oa.below hb).bel 0 0 0 0 0 0 0
  have oa := (oa.below hb).alloc (.cells #[.int .i64 0, .int .i64 0, .int .i64 0, .int .i64 0, .int .i64 0, .int .i64 0, .int .i64 0] 25)
  clear hb
  go_wp2_with fail
  go_ret
  exact ⟨rfl, oa.bel⟩

set_option maxRecDepth 100000 in
set_option maxHeartbeats 4000000 in
theorem stampOrder_high_high (S T which by_ : Int) (w : World) (hw : Mon w) (hp : Pow w) (p0 : 13569465600 ≤ S) (q0 : 13569465600 ≤ T) :
    Calls Tryd.prog 5 #[.int .i64 S, .int .i64 T, .int .i64 which, .int .i64 by_] w fun e w' => e = .returned (.bool true) ∧ Below w.heap.size w w' := by
  have HM := MonOn.of hw
  have HP := PowOn.of hp
  have H1 : Hid (∀ w, Mon w → Calls Tryd.prog 6 #[.int .i64 S] w fun e w' => e = .returned (.tuple #[.agg #[.int .i64 0, .int .i64 0, .int .i64 0, .int .i64 0, .int .i64 0, .int .i64 0, .int .i64 0], .int .i64 50]) ∧ Below w.heap.size w w') := fun w _ => split_out S w (by omega)
  have H2 : Hid (∀ w, Mon w → Calls Tryd.prog 6 #[.int .i64 T] w fun e w' => e = .returned (.tuple #[.agg #[.int .i64 0, .int .i64 0, .int .i64 0, .int .i64 0, .int .i64 0, .int .i64 0, .int .i64 0], .int .i64 50]) ∧ Below w.heap.size w w') := fun w _ => split_out T w (by omega)
  have g1 : decide (0 ≤ S) = true := by simp; omega
  have g1' : decide (S < 13569465600) = false := by simp; omega
  have g2 : decide (0 ≤ T) = true := by simp; omega
  have g2' : decide (T < 13569465600) = false := by simp; omega
  clear hw hp
  go_enter Tryd.func5, Tryd.ntmps5
  go_wp2_with fail
  with_reducible refine (knownS_any _ (HM.on (Below.refl _ _)) (HP.on (Below.refl _ _))).mono ?_
  rintro e w0 ⟨rfl, b0⟩
  go_wp2_with fail
  with_reducible refine (H1.out _ (HM.on b0)).mono ?_
  rintro e w1 ⟨rfl, hb⟩
  have b1 := b0.trans (hb.mono b0.size)
  have oa := Own.newAt b1 0 0 0 0 0 0 0
  clear hb b0 b1
  go_wp2_with fail
  generalize w1.alloc (.cells #[.int .i64 0, .int .i64 0, .int .i64 0, .int .i64 0, .int .i64 0, .int .i64 0, .int .i64 0] 25) = w2 at *
  generalize w1.heap.size = E at *
  with_reducible refine (H2.out _ (HM.on oa.bel)).mono ?_
  rintro e w3 ⟨rfl, hb⟩
  have hEF : E ≠ w3.heap.size := Nat.ne_of_lt (Nat.lt_of_lt_of_le oa.siz hb.size)
  have ob := Own.newAt (oa.below hb).bel 0 0 0 0 0 0 0
  have oa := (oa.below hb).alloc (.cells #[.int .i64 0, .int .i64 0, .int .i64 0, .int .i64 0, .int .i64 0, .int .i64 0, .int .i64 0] 25)
  clear hb
  go_wp2_with fail
  go_ret
  exact ⟨rfl, oa.bel⟩
end Go.Proofs.YtpafjdbckbhcoaaDoor
