/- field.all, field.May, field.run, by their contracts. The reference's Low, High, Has, First, May, digits, by their contracts. -/
import Derived.Test.YtoghalmjbbkjhaaGreatDoorTextM
namespace Go.Proofs.YtoghalmjbbkjhaaGreatDoor
open Go.RowKit

def SomeDrew (v : Value) (w : World) (e : Ending) (w' : World) : Prop := e = .returned v ∧ ∃ n, w' = w.drewN n
set_option maxRecDepth 100000 in
theorem all_any (k : Nat) (hk : k ≤ 4) (w : World) (hw : Tabs w) : Calls Tryz.prog 97 #[.int .i64 (k : Int)] w (SomeDrew (.int .u64 (Fld.all k : Nat)) w) := by
  have d := hw.low k hk
  obtain ⟨a0, a1, a2, a3, a4⟩ := Fld.all_five
  clear hw
  rcases Fld.kinds hk with rfl | rfl | rfl | rfl | rfl
  · obtain ⟨d0, d1⟩ : w.cell? ⟨2, 0, none⟩ = some (.int .i64 0) ∧ w.cell? ⟨2, 1, none⟩ = some (.int .i64 59) := d
    have HA := Lib.hid a0
    generalize Fld.all 0 = R at *
    clear hk a0 a1 a2 a3 a4
    go_enter Tryz.func97, Tryz.ntmps97
    go_wp2_with fail
    go_quiet (fail)
    go_wp2_with fail
    go_ret
    exact ⟨by rw [HA.out]; rfl, nq, rfl⟩
  · obtain ⟨d0, d1⟩ : w.cell? ⟨2, 2, none⟩ = some (.int .i64 0) ∧ w.cell? ⟨2, 3, none⟩ = some (.int .i64 23) := d
    have HA := Lib.hid a1
    generalize Fld.all 1 = R at *
    clear hk a0 a1 a2 a3 a4
    go_enter Tryz.func97, Tryz.ntmps97
    go_wp2_with fail
    go_quiet (fail)
    go_wp2_with fail
    go_ret
    exact ⟨by rw [HA.out]; rfl, nq, rfl⟩
  · obtain ⟨d0, d1⟩ : w.cell? ⟨2, 4, none⟩ = some (.int .i64 1) ∧ w.cell? ⟨2, 5, none⟩ = some (.int .i64 31) := d
    have HA := Lib.hid a2
    generalize Fld.all 2 = R at *
    clear hk a0 a1 a2 a3 a4
    go_enter Tryz.func97, Tryz.ntmps97
    go_wp2_with fail
    go_quiet (fail)
    go_wp2_with fail
    go_ret
    exact ⟨by rw [HA.out]; rfl, nq, rfl⟩
  · obtain ⟨d0, d1⟩ : w.cell? ⟨2, 6, none⟩ = some (.int .i64 1) ∧ w.cell? ⟨2, 7, none⟩ = some (.int .i64 12) := d
    have HA := Lib.hid a3
    generalize Fld.all 3 = R at *
    clear hk a0 a1 a2 a3 a4
    go_enter Tryz.func97, Tryz.ntmps97
    go_wp2_with fail
    go_quiet (fail)
    go_wp2_with fail
    go_ret
    exact ⟨by rw [HA.out]; rfl, nq, rfl⟩
  · obtain ⟨d0, d1⟩ : w.cell? ⟨2, 8, none⟩ = some (.int .i64 0) ∧ w.cell? ⟨2, 9, none⟩ = some (.int .i64 6) := d
    have HA := Lib.hid a4
    generalize Fld.all 4 = R at *
    clear hk a0 a1 a2 a3 a4
    go_enter Tryz.func97, Tryz.ntmps97
    go_wp2_with fail
    go_quiet (fail)
    go_wp2_with fail
    go_ret
    exact ⟨by rw [HA.out]; rfl, nq, rfl⟩

theorem nat_zero (x : Nat) : decide (x = 0) = ((x : Int) == 0) := by
  by_cases h : x = 0
  · rw [decide_eq_true h, h]; rfl
  · rw [decide_eq_false h]; symm; rw [beq_eq_false_iff_ne]; omega
theorem known_same (k : Int) (w : World) : Calls Tryz.prog 77 #[.int .i64 k] w fun e w' => e = .returned (.bool (knownB k)) ∧ w' = w := (known_any k w).mono fun _ _ ⟨h1, h2⟩ => ⟨h1, h2.symm⟩
set_option maxRecDepth 100000 in
set_option maxHeartbeats 1000000 in
theorem may_any (k : Int) (b : Nat) (hb : b < 2 ^ 64) (star : Bool) (w : World) (hw : TabsOn w) : Calls Tryz.prog 83 #[.int .i64 k, fval b star] w fun e w' => e = .returned (.bool (Fld.may k b)) ∧ Below w.heap.size w w' := by
  have o := OwnF.new w b star
  obtain ⟨c0, c1⟩ := o.cells
  have bel := o.bel
  have HT := Lib.hid (fun n => hw.on (many_drew bel n))
  have HN := Lib.hid (fun W => known_same k W)
  clear o hw
  unfold fval
  by_cases hk : 0 ≤ k ∧ k ≤ 4
  · obtain ⟨k0, k4⟩ := hk
    obtain ⟨j, rfl⟩ := Int.eq_ofNat_of_zero_le k0
    have hj : j ≤ 4 := by omega
    have HM := Lib.hid (Fld.may_in (b := b) hj)
    generalize Fld.may (j : Int) b = R at *
    have hK := knownB_in hj
    by_cases h0 : b = 0
    · subst h0
      have HM2 := Lib.hid (show R = false from HM.out)
      have c0 : (w.alloc (.cells #[.int .u64 0, .bool star] 41)).cell? ⟨w.heap.size, 0, none⟩ = some (.int .u64 0) := c0
      have bel : Below w.heap.size w (w.alloc (.cells #[.int .u64 0, .bool star] 41)) := bel
      clear HM hb k0 k4
      go_enter Tryz.func83, Tryz.ntmps83
      go_wp2_with fail
      go_quiet ((go_at_call 77; exact Calls.quiet_of_same (HN.out _)))
      go_wp2_with fail
      go_ret
      exact ⟨by rw [HM2.out]; rfl, many_drew bel nq⟩
    · have HM2 := Lib.hid (show R = decide (b &&& (18446744073709551615 - Fld.all j) = 0) from by rw [HM.out, decide_eq_true h0, Bool.true_and])
      have e1 : bits .andNot .u64 (b : Int) (Fld.all j : Int) = ((b &&& (18446744073709551615 - Fld.all j) : Nat) : Int) := u64_andNot_nat b _ hb (Fld.all_lt hj)
      have HALL := Lib.hid (fun n => all_any j hj _ (HT.out n))
      have g0 : ((b : Int) == 0) = false := by rw [beq_eq_false_iff_ne]; omega
      have g1 : ((b : Int) != 0) = true := by rw [bne_iff_ne]; omega
      generalize b &&& (18446744073709551615 - Fld.all j) = R2 at *
      generalize Fld.all j = AL at *
      clear HM hb k0 k4 h0
      go_enter Tryz.func83, Tryz.ntmps83
      go_wp2_with fail
      go_quiet (first | (go_at_call 77; exact Calls.quiet_of_same (HN.out _)) | (go_at_call 97; exact Calls.quiet_of (HALL.out _)))
      go_wp2_with fail
      go_ret
      exact ⟨by rw [HM2.out, nat_zero]; rfl, many_drew bel nq⟩
  · have HM := Lib.hid (Fld.may_out (b := b) hk)
    generalize Fld.may k b = R at *
    have hK := knownB_out hk
    clear hk
    go_enter Tryz.func83, Tryz.ntmps83
    go_wp2_with fail
    go_quiet ((go_at_call 77; exact Calls.quiet_of_same (HN.out _)))
    go_wp2_with fail
    go_ret
    exact ⟨by rw [HM.out]; rfl, many_drew bel nq⟩

theorem ba_app (a b : List UInt8) : ba a ++ ba b = ba (a ++ b) := by
  apply ByteArray.ext
  show (ba a ++ ba b).data = _
  rw [ByteArray.data_append]
  simp [ba]
end Go.Proofs.YtoghalmjbbkjhaaGreatDoor

namespace Go.Proofs.YtoghalmjbbkjhaaGreatDoor
open Go.RowKit

theorem index_five (A : Array Value) (i : Nat) (hi : i < 5) (v : Value) (hA : A[i]? = some v) (w : World) : (Instr.index 104 (.agg A) (.int .i64 (i : Int))).run Tryz.prog w = .ok v w := by
  simp [Instr.index, run_underlying Tryz.underlying104, asIntOf, hi, hA, go_sem]
set_option maxRecDepth 100000 in
theorem refLow_any (k : Nat) (hk : k ≤ 4) (w : World) : Calls Tryz.prog 86 #[.int .i64 (k : Int)] w fun e w' => e = .returned (.int .i64 (Fld.lo k : Int)) ∧ Below w.heap.size w w' := by
  rcases Fld.kinds hk with rfl | rfl | rfl | rfl | rfl
  · show Calls Tryz.prog 86 #[.int .i64 0] w fun e w' => e = .returned (.int .i64 0) ∧ Below w.heap.size w w'
    go_enter Tryz.func86, Tryz.ntmps86
    go_wp2_with fail
    go_ret
    exact ⟨rfl, by first | exact Below.refl _ _ | exact (Below.refl _ _).drew⟩
  · show Calls Tryz.prog 86 #[.int .i64 1] w fun e w' => e = .returned (.int .i64 0) ∧ Below w.heap.size w w'
    go_enter Tryz.func86, Tryz.ntmps86
    go_wp2_with fail
    go_ret
    exact ⟨rfl, by first | exact Below.refl _ _ | exact (Below.refl _ _).drew⟩
  · show Calls Tryz.prog 86 #[.int .i64 2] w fun e w' => e = .returned (.int .i64 1) ∧ Below w.heap.size w w'
    go_enter Tryz.func86, Tryz.ntmps86
    go_wp2_with fail
    go_ret
    exact ⟨rfl, by first | exact Below.refl _ _ | exact (Below.refl _ _).drew⟩
  · show Calls Tryz.prog 86 #[.int .i64 3] w fun e w' => e = .returned (.int .i64 1) ∧ Below w.heap.size w w'
    go_enter Tryz.func86, Tryz.ntmps86
    go_wp2_with fail
    go_ret
    exact ⟨rfl, by first | exact Below.refl _ _ | exact (Below.refl _ _).drew⟩
  · show Calls Tryz.prog 86 #[.int .i64 4] w fun e w' => e = .returned (.int .i64 0) ∧ Below w.heap.size w w'
    go_enter Tryz.func86, Tryz.ntmps86
    go_wp2_with fail
    go_ret
    exact ⟨rfl, by first | exact Below.refl _ _ | exact (Below.refl _ _).drew⟩
set_option maxRecDepth 100000 in
theorem refHigh_any (k : Nat) (hk : k ≤ 4) (w : World) : Calls Tryz.prog 87 #[.int .i64 (k : Int)] w fun e w' => e = .returned (.int .i64 (Fld.hi k : Int)) ∧ Below w.heap.size w w' := by
  rcases Fld.kinds hk with rfl | rfl | rfl | rfl | rfl
  · show Calls Tryz.prog 87 #[.int .i64 0] w fun e w' => e = .returned (.int .i64 59) ∧ Below w.heap.size w w'
    have hx : (Instr.index 104 (.agg #[.int .i64 59, .int .i64 23, .int .i64 31, .int .i64 12, .int .i64 6]) (.int .i64 0)).run Tryz.prog w = .ok (.int .i64 59) w := index_five _ 0 (by decide) _ rfl w
    go_enter Tryz.func87, Tryz.ntmps87
    go_wp2_with fail
    go_ret
    exact ⟨rfl, by first | exact Below.refl _ _ | exact (Below.refl _ _).drew⟩
  · show Calls Tryz.prog 87 #[.int .i64 1] w fun e w' => e = .returned (.int .i64 23) ∧ Below w.heap.size w w'
    have hx : (Instr.index 104 (.agg #[.int .i64 59, .int .i64 23, .int .i64 31, .int .i64 12, .int .i64 6]) (.int .i64 1)).run Tryz.prog w = .ok (.int .i64 23) w := index_five _ 1 (by decide) _ rfl w
    go_enter Tryz.func87, Tryz.ntmps87
    go_wp2_with fail
    go_ret
    exact ⟨rfl, by first | exact Below.refl _ _ | exact (Below.refl _ _).drew⟩
  · show Calls Tryz.prog 87 #[.int .i64 2] w fun e w' => e = .returned (.int .i64 31) ∧ Below w.heap.size w w'
    have hx : (Instr.index 104 (.agg #[.int .i64 59, .int .i64 23, .int .i64 31, .int .i64 12, .int .i64 6]) (.int .i64 2)).run Tryz.prog w = .ok (.int .i64 31) w := index_five _ 2 (by decide) _ rfl w
    go_enter Tryz.func87, Tryz.ntmps87
    go_wp2_with fail
    go_ret
    exact ⟨rfl, by first | exact Below.refl _ _ | exact (Below.refl _ _).drew⟩
  · show Calls Tryz.prog 87 #[.int .i64 3] w fun e w' => e = .returned (.int .i64 12) ∧ Below w.heap.size w w'
    have hx : (Instr.index 104 (.agg #[.int .i64 59, .int .i64 23, .int .i64 31, .int .i64 12, .int .i64 6]) (.int .i64 3)).run Tryz.prog w = .ok (.int .i64 12) w := index_five _ 3 (by decide) _ rfl w
    go_enter Tryz.func87, Tryz.ntmps87
    go_wp2_with fail
    go_ret
    exact ⟨rfl, by first | exact Below.refl _ _ | exact (Below.refl _ _).drew⟩
  · show Calls Tryz.prog 87 #[.int .i64 4] w fun e w' => e = .returned (.int .i64 6) ∧ Below w.heap.size w w'
    have hx : (Instr.index 104 (.agg #[.int .i64 59, .int .i64 23, .int .i64 31, .int .i64 12, .int .i64 6]) (.int .i64 4)).run Tryz.prog w = .ok (.int .i64 6) w := index_five _ 4 (by decide) _ rfl w
    go_enter Tryz.func87, Tryz.ntmps87
    go_wp2_with fail
    go_ret
    exact ⟨rfl, by first | exact Below.refl _ _ | exact (Below.refl _ _).drew⟩

theorem ref_test (b i x : Nat) (h : x % 2 = (b.testBit i).toNat) : ((x : Int) % 2 == 1) = b.testBit i := by
  rw [show ((x : Int) % 2) = ((x % 2 : Nat) : Int) by omega, h]
  cases b.testBit i <;> rfl
set_option maxRecDepth 100000 in
set_option maxHeartbeats 1000000 in
theorem refHas_any (b : Nat) (hb : b < 2 ^ 64) (star : Bool) (n : Int) (w : World) : Calls Tryz.prog 47 #[.agg #[.int .u64 (b : Int), .bool star], .int .i64 n] w fun e w' => e = .returned (.bool (Fld.has b n)) ∧ Below w.heap.size w w' := by
  have o := OwnF.new w b star
  obtain ⟨c0, c1⟩ := o.cells
  have bel := o.bel
  by_cases h : 0 ≤ n ∧ n < 64
  · obtain ⟨h0, h1⟩ := h
    obtain ⟨m, rfl⟩ := Int.eq_ofNat_of_zero_le h0
    have hm : m < 64 := by omega
    have HH := Lib.hid (Fld.has_in (b := b) hm)
    generalize Fld.has b (m : Int) = R at HH ⊢
    have g0 : decide ((m : Int) < 0) = false := by simp
    have g1 : decide ((63 : Int) < (m : Int)) = false := by simp; omega
    have HB := Lib.hid bel
    clear o bel h0 h1
    go_enter Tryz.func47, Tryz.ntmps47
    go_wp2_with fail
    go_loopg [5, 6] m (fun g t5 t6 wx => ∃ i : Nat, i + g = m ∧ t5 = .int .u64 ((b / 2 ^ i : Nat) : Int) ∧ t6 = .int .i64 (i : Int) ∧ Below w.heap.size w wx)
    case atStart => exact ⟨0, by omega, by simp, rfl, HB.out⟩
    case round =>
      obtain ⟨i, hig, rfl, rfl, hbx⟩ := hrel
      have HX := Lib.hid hbx
      have hlt : b / 2 ^ i < 18446744073709551616 := Nat.lt_of_le_of_lt (Nat.div_le_self _ _) hb
      have hsucc : b / 2 ^ i / 2 = b / 2 ^ (i + 1) := by rw [Nat.pow_succ, Nat.div_div_eq_div_mul]
      have htest := ref_test b i _ (test_div b i)
      clear hbx
      cases gk with
      | zero =>
        obtain rfl : i = m := by omega
        generalize b / 2 ^ i = x at *
        have gz : ((i : Int) < (i : Int)) = False := by simp
        have HT := Lib.hid htest
        clear htest
        go_wp2_with fail
        go_ret
        exact ⟨by rw [HH.out, ← HT.out]; rfl, HX.out⟩
      | succ g =>
        generalize b / 2 ^ i = x at *
        clear htest
        have HS := Lib.hid hsucc
        clear hsucc
        go_wp2_with fail
        go_roundg g
        case measure => omega
        case rel => exact ⟨i + 1, by omega, by rw [← HS.out]; exact congrArg (Value.int .u64) (by omega), by go_num, HX.out⟩
  · have HH := Lib.hid (Fld.has_out (b := b) h)
    generalize Fld.has b n = R at HH ⊢
    have HB := Lib.hid bel
    by_cases h0 : n < 0
    · have g0 : decide (n < 0) = true := decide_eq_true h0
      clear o
      go_enter Tryz.func47, Tryz.ntmps47
      go_wp2_with fail
      go_ret
      exact ⟨by rw [HH.out]; rfl, HB.out⟩
    · have g0 : decide (n < 0) = false := decide_eq_false h0
      have g1 : decide (63 < n) = true := decide_eq_true (by omega)
      clear o
      go_enter Tryz.func47, Tryz.ntmps47
      go_wp2_with fail
      go_ret
      exact ⟨by rw [HH.out]; rfl, HB.out⟩

set_option maxRecDepth 100000 in
set_option maxHeartbeats 1000000 in
theorem refMay_any (k : Int) (b : Nat) (hb : b < 2 ^ 64) (star : Bool) (w : World) : Calls Tryz.prog 88 #[.int .i64 k, .agg #[.int .u64 (b : Int), .bool star]] w fun e w' => e = .returned (.bool (Fld.may k b)) ∧ Below w.heap.size w w' := by
  have o := OwnF.new w b star
  have O := Lib.hid o
  obtain ⟨c0, c1⟩ := o.cells
  clear o
  by_cases hk : 0 ≤ k ∧ k ≤ 4
  · obtain ⟨n, rfl⟩ := Int.eq_ofNat_of_zero_le hk.1
    have hn : n ≤ 4 := by omega
    have HI := Lib.hid (Fld.may_iff hn hb)
    have HL := Lib.hid (refLow_any n hn)
    have HH := Lib.hid (refHigh_any n hn)
    have g0 : decide ((n : Int) < 0) = false := by simp
    have g1 : decide (4 < (n : Int)) = false := decide_eq_false (by omega)
    generalize Fld.may (n : Int) b = R at HI ⊢
    clear hk
    by_cases hz : b = 0
    · subst hz
      have HR : Hid (R = false) := Lib.hid (by
        cases R
        · rfl
        · exact absurd rfl (HI.out.1 rfl).1)
      have c0' : _ = some (Value.int .u64 0) := c0
      clear c0
      go_enter Tryz.func88, Tryz.ntmps88
      go_wp2_with fail
      go_ret
      exact ⟨by rw [HR.out]; rfl, O.out.bel⟩
    · have gz : ((b : Int) == 0) = false := by simp; omega
      go_enter Tryz.func88, Tryz.ntmps88
      go_wp2_with fail
      go_loopg [5] 64 (fun g t wx => ∃ i : Nat, i + g = 64 ∧ t = .int .i64 (i : Int) ∧ (∀ j : Nat, j < i → b.testBit j = true → Fld.lo n ≤ j ∧ j ≤ Fld.hi n) ∧ OwnF w w.heap.size b star wx)
      case atStart => exact ⟨0, by omega, rfl, fun j hj => absurd hj (by omega), O.out⟩
      case round =>
        obtain ⟨i, hig, rfl, hno, ow⟩ := hrel
        clear c0 c1
        obtain ⟨c0, c1⟩ := ow.cells
        have OW := Lib.hid ow
        have NO := Lib.hid hno
        clear ow hno
        cases gk with
        | zero =>
          obtain rfl : i = 64 := by omega
          have HR : Hid (R = true) := Lib.hid (HI.out.2 ⟨hz, fun m hm => NO.out m (by
            rcases Nat.lt_or_ge m 64 with h' | h'
            · exact h'
            · rw [Nat.testBit_lt_two_pow (Nat.lt_of_lt_of_le hb (Nat.pow_le_pow_right (n := 2) (by decide) h'))] at hm
              simp at hm) hm⟩)
          go_wp2_with fail
          go_ret
          exact ⟨by rw [HR.out]; rfl, OW.out.bel⟩
        | succ g =>
          have hi64 : i < 64 := by omega
          have gl : ((i : Int) < 64) = True := by simp; omega
          have CA := refHas_any b hb star (i : Int) wr
          rw [Fld.has_in hi64] at CA
          cases hbit : b.testBit i with
          | false =>
            rw [hbit] at CA
            have CA := Lib.hid CA
            have HB := Lib.hid hbit
            clear hbit
            go_wp2_with fail
            with_reducible refine CA.out.mono ?_
            rintro e w2 ⟨rfl, hb2⟩
            have O2 := Lib.hid (OW.out.below hb2)
            clear hb2 CA c0 c1
            go_wp2_with fail
            go_roundg g
            case measure => omega
            case rel => exact ⟨i + 1, by omega, by go_num, fun j h1 h2 => by
              by_cases e : j = i
              · rw [e, HB.out] at h2; simp at h2
              · exact NO.out j (by omega) h2, O2.out⟩
          | true =>
            rw [hbit] at CA
            have CA := Lib.hid CA
            have HB := Lib.hid hbit
            clear hbit
            go_wp2_with fail
            with_reducible refine CA.out.mono ?_
            rintro e w2 ⟨rfl, hb2⟩
            have O2 := Lib.hid (OW.out.below hb2)
            clear hb2 CA c0 c1
            go_wp2_with fail
            with_reducible refine (HL.out _).mono ?_
            rintro e w3 ⟨rfl, hb3⟩
            have O3 := Lib.hid (O2.out.below hb3)
            clear hb3 O2
            have NL : Hid (i < Fld.lo n → R = false) := Lib.hid fun h => by
              cases R
              · rfl
              · have := (HI.out.1 rfl).2 i HB.out; omega
            have NH : Hid (Fld.hi n < i → R = false) := Lib.hid fun h => by
              cases R
              · rfl
              · have := (HI.out.1 rfl).2 i HB.out; omega
            have HQ : Hid (¬ i < Fld.lo n → ¬ Fld.hi n < i → ∀ j : Nat, j < i + 1 → b.testBit j = true → Fld.lo n ≤ j ∧ j ≤ Fld.hi n) := Lib.hid fun h1 h2 j h3 h4 => by
              by_cases e : j = i
              · omega
              · exact NO.out j (by omega) h4
            generalize Fld.lo n = lo at *
            generalize Fld.hi n = hi at *
            by_cases hlo : i < lo
            · have ga : decide ((i : Int) < (lo : Int)) = true := decide_eq_true (by omega)
              have HR := Lib.hid (NL.out hlo)
              go_wp2_with fail
              go_ret
              exact ⟨by rw [HR.out]; rfl, O3.out.bel⟩
            · have ga : decide ((i : Int) < (lo : Int)) = false := decide_eq_false (by omega)
              go_wp2_with fail
              with_reducible refine (HH.out _).mono ?_
              rintro e w4 ⟨rfl, hb4⟩
              have O4 := Lib.hid (O3.out.below hb4)
              clear hb4 O3
              by_cases hhi : hi < i
              · have gb : decide ((hi : Int) < (i : Int)) = true := decide_eq_true (by omega)
                have HR := Lib.hid (NH.out hhi)
                go_wp2_with fail
                go_ret
                exact ⟨by rw [HR.out]; rfl, O4.out.bel⟩
              · have gb : decide ((hi : Int) < (i : Int)) = false := decide_eq_false (by omega)
                go_wp2_with fail
                go_roundg g
                case measure => omega
                case rel => exact ⟨i + 1, by omega, by go_num, HQ.out hlo hhi, O4.out⟩
  · rw [Fld.may_out hk]
    by_cases h0 : k < 0
    · have g0 : decide (k < 0) = true := decide_eq_true h0
      go_enter Tryz.func88, Tryz.ntmps88
      go_wp2_with fail
      go_ret
      exact ⟨rfl, O.out.bel⟩
    · have g0 : decide (k < 0) = false := decide_eq_false h0
      have g1 : decide (4 < k) = true := decide_eq_true (by omega)
      go_enter Tryz.func88, Tryz.ntmps88
      go_wp2_with fail
      go_ret
      exact ⟨rfl, O.out.bel⟩
end Go.Proofs.YtoghalmjbbkjhaaGreatDoor
