/- field.all, field.May, field.run, by their contracts. -/
import Derived.Test.YtgcineaodfomeaaDoorTextM
namespace Go.Proofs.YtgcineaodfomeaaDoor
open Go.RowKit

def SomeDrew (v : Value) (w : World) (e : Ending) (w' : World) : Prop := e = .returned v ∧ ∃ n, w' = w.drewN n
set_option maxRecDepth 100000 in
theorem all_any (k : Nat) (hk : k ≤ 4) (w : World) (hw : Tabs w) : Calls Tryd.prog 41 #[.int .i64 (k : Int)] w (SomeDrew (.int .u64 (Fld.all k : Nat)) w) := by
  have d := hw.low k hk
  obtain ⟨a0, a1, a2, a3, a4⟩ := Fld.all_five
  clear hw
  rcases Fld.kinds hk with rfl | rfl | rfl | rfl | rfl
  · obtain ⟨d0, d1⟩ : w.cell? ⟨1, 0, none⟩ = some (.int .i64 0) ∧ w.cell? ⟨1, 1, none⟩ = some (.int .i64 59) := d
    have HA := Lib.hid a0
    generalize Fld.all 0 = R at *
    clear hk a0 a1 a2 a3 a4
    go_enter Tryd.func41, Tryd.ntmps41
    go_wp2_with fail
    go_quiet (fail)
    go_wp2_with fail
    go_ret
    exact ⟨by rw [HA.out]; rfl, nq, rfl⟩
  · obtain ⟨d0, d1⟩ : w.cell? ⟨1, 2, none⟩ = some (.int .i64 0) ∧ w.cell? ⟨1, 3, none⟩ = some (.int .i64 23) := d
    have HA := Lib.hid a1
    generalize Fld.all 1 = R at *
    clear hk a0 a1 a2 a3 a4
    go_enter Tryd.func41, Tryd.ntmps41
    go_wp2_with fail
    go_quiet (fail)
    go_wp2_with fail
    go_ret
    exact ⟨by rw [HA.out]; rfl, nq, rfl⟩
  · obtain ⟨d0, d1⟩ : w.cell? ⟨1, 4, none⟩ = some (.int .i64 1) ∧ w.cell? ⟨1, 5, none⟩ = some (.int .i64 31) := d
    have HA := Lib.hid a2
    generalize Fld.all 2 = R at *
    clear hk a0 a1 a2 a3 a4
    go_enter Tryd.func41, Tryd.ntmps41
    go_wp2_with fail
    go_quiet (fail)
    go_wp2_with fail
    go_ret
    exact ⟨by rw [HA.out]; rfl, nq, rfl⟩
  · obtain ⟨d0, d1⟩ : w.cell? ⟨1, 6, none⟩ = some (.int .i64 1) ∧ w.cell? ⟨1, 7, none⟩ = some (.int .i64 12) := d
    have HA := Lib.hid a3
    generalize Fld.all 3 = R at *
    clear hk a0 a1 a2 a3 a4
    go_enter Tryd.func41, Tryd.ntmps41
    go_wp2_with fail
    go_quiet (fail)
    go_wp2_with fail
    go_ret
    exact ⟨by rw [HA.out]; rfl, nq, rfl⟩
  · obtain ⟨d0, d1⟩ : w.cell? ⟨1, 8, none⟩ = some (.int .i64 0) ∧ w.cell? ⟨1, 9, none⟩ = some (.int .i64 6) := d
    have HA := Lib.hid a4
    generalize Fld.all 4 = R at *
    clear hk a0 a1 a2 a3 a4
    go_enter Tryd.func41, Tryd.ntmps41
    go_wp2_with fail
    go_quiet (fail)
    go_wp2_with fail
    go_ret
    exact ⟨by rw [HA.out]; rfl, nq, rfl⟩

theorem nat_zero (x : Nat) : decide (x = 0) = ((x : Int) == 0) := by
  by_cases h : x = 0
  · rw [decide_eq_true h, h]; rfl
  · rw [decide_eq_false h]; symm; rw [beq_eq_false_iff_ne]; omega
theorem known_same (k : Int) (w : World) : Calls Tryd.prog 40 #[.int .i64 k] w fun e w' => e = .returned (.bool (knownB k)) ∧ w' = w := (known_any k w).mono fun _ _ ⟨h1, h2⟩ => ⟨h1, h2.symm⟩
set_option maxRecDepth 100000 in
set_option maxHeartbeats 1000000 in
theorem may_any (k : Int) (b : Nat) (hb : b < 2 ^ 64) (star : Bool) (w : World) (hw : TabsOn w) : Calls Tryd.prog 25 #[.int .i64 k, fval b star] w fun e w' => e = .returned (.bool (Fld.may k b)) ∧ Below w.heap.size w w' := by
  have o := OwnF.new w b star
  obtain ⟨c0, c1⟩ := o.cells
  have bel := o.bel
  have HT := Lib.hid (fun n => hw.on (many_drew bel n))
  have HN := Lib.hid (fun W => known_same k W)
  clear o hw
  unfold fval
  by_cases hk : 0 ≤ k ∧ k ≤ 4
  · obtain ⟨k0, k4⟩ := hk
    obtain ⟨j, rfl⟩ := Int.eq_ofNat_of_zero_le k0
    have hj : j ≤ 4 := by omega
    have HM := Lib.hid (Fld.may_in (b := b) hj)
    generalize Fld.may (j : Int) b = R at *
    have hK := knownB_in hj
    by_cases h0 : b = 0
    · subst h0
      have HM2 := Lib.hid (show R = false from HM.out)
      have c0 : (w.alloc (.cells #[.int .u64 0, .bool star] 24)).cell? ⟨w.heap.size, 0, none⟩ = some (.int .u64 0) := c0
      have bel : Below w.heap.size w (w.alloc (.cells #[.int .u64 0, .bool star] 24)) := bel
      clear HM hb k0 k4
      go_enter Tryd.func25, Tryd.ntmps25
      go_wp2_with fail
      go_quiet ((go_at_call 40; exact Calls.quiet_of_same (HN.out _)))
      go_wp2_with fail
      go_ret
      exact ⟨by rw [HM2.out]; rfl, many_drew bel nq⟩
    · have HM2 := Lib.hid (show R = decide (b &&& (18446744073709551615 - Fld.all j) = 0) from by rw [HM.out, decide_eq_true h0, Bool.true_and])
      have e1 : bits .andNot .u64 (b : Int) (Fld.all j : Int) = ((b &&& (18446744073709551615 - Fld.all j) : Nat) : Int) := u64_andNot_nat b _ hb (Fld.all_lt hj)
      have HALL := Lib.hid (fun n => all_any j hj _ (HT.out n))
      have g0 : ((b : Int) == 0) = false := by rw [beq_eq_false_iff_ne]; omega
      have g1 : ((b : Int) != 0) = true := by rw [bne_iff_ne]; omega
      generalize b &&& (18446744073709551615 - Fld.all j) = R2 at *
      generalize Fld.all j = AL at *
      clear HM hb k0 k4 h0
      go_enter Tryd.func25, Tryd.ntmps25
      go_wp2_with fail
      go_quiet (first | (go_at_call 40; exact Calls.quiet_of_same (HN.out _)) | (go_at_call 41; exact Calls.quiet_of (HALL.out _)))
      go_wp2_with fail
      go_ret
      exact ⟨by rw [HM2.out, nat_zero]; rfl, many_drew bel nq⟩
  · have HM := Lib.hid (Fld.may_out (b := b) hk)
    generalize Fld.may k b = R at *
    have hK := knownB_out hk
    clear hk
    go_enter Tryd.func25, Tryd.ntmps25
    go_wp2_with fail
    go_quiet ((go_at_call 40; exact Calls.quiet_of_same (HN.out _)))
    go_wp2_with fail
    go_ret
    exact ⟨by rw [HM.out]; rfl, many_drew bel nq⟩

theorem ba_app (a b : List UInt8) : ba a ++ ba b = ba (a ++ b) := by
  apply ByteArray.ext
  show (ba a ++ ba b).data = _
  rw [ByteArray.data_append]
  simp [ba]
end Go.Proofs.YtgcineaodfomeaaDoor
