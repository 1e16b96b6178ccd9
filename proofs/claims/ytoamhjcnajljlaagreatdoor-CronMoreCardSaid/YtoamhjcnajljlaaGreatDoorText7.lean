/- field.Text of any field of any kind; the law's own examples ('known'). -/
import Derived.Test.YtoamhjcnajljlaaGreatDoorText6
import Derived.Test.YtoamhjcnajljlaaGreatDoorParse
namespace Go.Proofs.YtoamhjcnajljlaaGreatDoor
open Go.RowKit

set_option maxRecDepth 100000 in
set_option maxHeartbeats 1000000 in
theorem text_none (k : Int) (b : Nat) (hb : b < 2 ^ 64) (star : Bool) (w : World) (hw : TabsOn w) (hm : Fld.may k b = false) : Calls Tryz.prog 26 #[.int .i64 k, fval b star] w fun e w' => e = .returned (.string (ba [])) ∧ Below w.heap.size w w' := by
  have o := OwnF.new w b star
  obtain ⟨c0, c1⟩ := o.cells
  have bel := o.bel
  have HM := may_any k b hb star _ (hw.next bel)
  rw [hm] at HM
  unfold fval at HM ⊢
  have HM2 := Lib.hid HM
  clear o hw hm HM
  go_enter Tryz.func26, Tryz.ntmps26
  go_wp2_with fail
  with_reducible refine HM2.out.mono ?_
  rintro e w1 ⟨rfl, hb1⟩
  go_wp2_with fail
  go_ret
  exact ⟨rfl, bel.trans (hb1.mono bel.size)⟩

set_option maxRecDepth 100000 in
set_option maxHeartbeats 1000000 in
theorem text_free (k : Nat) (hk : k ≤ 4) (w : World) (hw : TabsOn w) : Calls Tryz.prog 26 #[.int .i64 (k : Int), fval (Fld.all k) true] w fun e w' => e = .returned (.string (ba [42])) ∧ Below w.heap.size w w' := by
  have hb := Fld.all_lt hk
  have hb64 : Fld.all k < 2 ^ 64 := hb
  have hm : Fld.may (k : Int) (Fld.all k) = true := (Fld.may_iff hk hb64).2 ⟨by rcases Fld.kinds hk with rfl | rfl | rfl | rfl | rfl <;> decide, fun m hm => by
    rw [Fld.all_bit hk] at hm
    simpa using hm⟩
  have o := OwnF.new w (Fld.all k) true
  have bel := o.bel
  have HM := may_any (k : Int) _ hb64 true _ (hw.next bel)
  rw [hm] at HM
  unfold fval at HM ⊢
  have HM2 := Lib.hid HM
  have HO := Lib.hid o
  have HW := Lib.hid hw
  have HAL := Lib.hid (fun W hW => all_any k hk W hW)
  clear o hw hm HM hb hb64
  generalize Fld.all k = AL at *
  go_enter Tryz.func26, Tryz.ntmps26
  go_wp2_with fail
  with_reducible refine HM2.out.mono ?_
  rintro e w1 ⟨rfl, hb1⟩
  have o1 := HO.out.below hb1
  obtain ⟨c0, c1⟩ := o1.cells
  have HB := Lib.hid o1.bel
  have HALL := Lib.hid (fun n => HAL.out (w1.drewN n) (HW.out.on (many_drew o1.bel n)))
  clear o1 hb1
  go_wp2_with fail
  go_quiet ((go_at_call 43; exact Calls.quiet_of (HALL.out _)))
  go_wp2_with fail
  go_ret
  exact ⟨rfl, many_drew HB.out nq⟩

theorem text_any (k : Int) (b : Nat) (hb : b < 2 ^ 64) (star : Bool) (w : World) (hw : TabsOn w) : Calls Tryz.prog 26 #[.int .i64 k, fval b star] w fun e w' => e = .returned (.string (ba (Fld.text k b star))) ∧ Below w.heap.size w w' := by
  unfold Fld.text
  cases hm : Fld.may k b
  · exact text_none k b hb star w hw hm
  · have hk : 0 ≤ k ∧ k ≤ 4 := by
      rcases Classical.em (0 ≤ k ∧ k ≤ 4) with h | h
      · exact h
      · rw [Fld.may_out h] at hm; simp at hm
    obtain ⟨j, rfl⟩ := Int.eq_ofNat_of_zero_le hk.1
    have hj : j ≤ 4 := by omega
    rw [if_pos rfl, Int.toNat_natCast]
    by_cases h : star = true ∧ b = Fld.all j
    · rw [if_pos h]
      obtain ⟨rfl, rfl⟩ := h
      exact text_free j hj w hw
    · rw [if_neg h]
      exact text_runs j hj b hb star w hw hm h

/-! the examples -/
theorem ex1 : Fld.err 0 [42, 47, 50, 48] = 0 ∧ Fld.allows 0 [42, 47, 50, 48] = 1099512676353 ∧ Fld.free 0 [42, 47, 50, 48] = true := by decide +kernel
theorem ex2 : Fld.err 4 [77, 111, 110, 45, 102, 114, 105, 44, 55] = 0 ∧ Fld.allows 4 [77, 111, 110, 45, 102, 114, 105, 44, 55] = 63 ∧ Fld.free 4 [77, 111, 110, 45, 102, 114, 105, 44, 55] = false := by decide +kernel
theorem ex3 : Fld.err 1 [50, 52] = 61 ∧ Fld.err 1 [53, 45] = 60 ∧ Fld.err 3 [109, 111, 110] = 60 := by decide +kernel
theorem ex4 : Fld.text 0 1099512676353 true = [48, 44, 50, 48, 44, 52, 48] ∧ Fld.text 4 63 false = [48, 45, 53] := by decide +kernel
end Go.Proofs.YtoamhjcnajljlaaGreatDoor
