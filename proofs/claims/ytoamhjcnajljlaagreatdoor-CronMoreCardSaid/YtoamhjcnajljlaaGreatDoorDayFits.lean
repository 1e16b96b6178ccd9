/- cron.DayFits, cron.Fits, and the reference's, by their contracts. -/
import Derived.Test.YtoamhjcnajljlaaGreatDoorAsker
import Derived.Test.YtoamhjcnajljlaaGreatDoorCJoinR
namespace Go.Proofs.YtoamhjcnajljlaaGreatDoor
open Go.RowKit

namespace Cron
theorem dayFits_eq (b : Nat → Nat) (s : Nat → Bool) (y m d h i x k : Int) : dayFits b s y m d h i x k = ((bif s 2 || s 4 then ((may b && decide (Stm.may y m d h i x k)) && Fld.has (b 2) d) && ((may b && decide (Stm.may y m d h i x k)) && Fld.has (b 4) k) else ((may b && decide (Stm.may y m d h i x k)) && Fld.has (b 2) d) || ((may b && decide (Stm.may y m d h i x k)) && Fld.has (b 4) k)) && ((may b && decide (Stm.may y m d h i x k)) && Fld.has (b 3) m)) := by
  unfold dayFits days
  generalize may b = p1
  generalize decide (Stm.may y m d h i x k) = p2
  generalize Fld.has (b 2) d = p3
  generalize Fld.has (b 3) m = p4
  generalize Fld.has (b 4) k = p5
  generalize s 2 = q1
  generalize s 4 = q2
  revert p1 p2 p3 p4 p5 q1 q2
  decide
theorem fits_eq (b : Nat → Nat) (s : Nat → Bool) (y m d h i x k : Int) : fits b s y m d h i x k = (((may b && decide (Stm.may y m d h i x k)) && Fld.has (b 0) i) && (((may b && decide (Stm.may y m d h i x k)) && Fld.has (b 1) h) && dayFits b s y m d h i x k)) := by
  unfold fits dayFits
  generalize may b = p1
  generalize decide (Stm.may y m d h i x k) = p2
  generalize Fld.has (b 0) i = p3
  generalize Fld.has (b 1) h = p4
  generalize days b s m d k = p5
  revert p1 p2 p3 p4 p5
  decide
theorem dayFits_ref (b : Nat → Nat) (s : Nat → Bool) (y m d h i x k : Int) : dayFits b s y m d h i x k = (decide (Stm.may y m d h i x k) && (may b && (Fld.has (b 3) m && (bif !(s 2) && !(s 4) then Fld.has (b 2) d || Fld.has (b 4) k else Fld.has (b 2) d && Fld.has (b 4) k)))) := by
  unfold dayFits days
  generalize may b = p1
  generalize decide (Stm.may y m d h i x k) = p2
  generalize Fld.has (b 2) d = p3
  generalize Fld.has (b 3) m = p4
  generalize Fld.has (b 4) k = p5
  generalize s 2 = q1
  generalize s 4 = q2
  revert p1 p2 p3 p4 p5 q1 q2
  decide
end Cron

/-- that a clock's numbers are numbers of the machine's -/
def inInts (m d h i k : Int) : Prop := ∀ j, j < 5 → -9223372036854775808 ≤ shows m d h i k j ∧ shows m d h i k j ≤ 9223372036854775807
set_option maxRecDepth 100000 in
set_option maxHeartbeats 4000000 in
theorem dayFits_any (b : Nat → Nat) (s : Nat → Bool) (hb : ∀ k, k < 5 → b k < 2 ^ 64) (y m d h i x k : Int) (hv : inInts m d h i k) (w : World) (hw : World7 w) :
    Calls Tryz.prog 15 #[xval b s, .agg #[.int .i64 y, .int .i64 m, .int .i64 d, .int .i64 h, .int .i64 i, .int .i64 x, .int .i64 k]] w fun e w' => e = .returned (.bool (Cron.dayFits b s y m d h i x k)) ∧ Below w.heap.size w w' := by
  have BX0 := Lib.hid (BX.start w b s y m d h i x k)
  have AK := fun W hW => asker_any b s hb y m d h i x k W hW
  have HE := Lib.hid (Cron.dayFits_eq b s y m d h i x k)
  have HW := Lib.hid hw
  generalize (Cron.may b && decide (Stm.may y m d h i x k)) = g at *
  generalize Cron.dayFits b s y m d h i x k = R at *
  clear hw
  have A2 := Lib.hid (fun M X S W (a : Asks M X S g b s (shows m d h i k) W) => asks_any 2 (by decide) 2 rfl M X S g b s (shows m d h i k) hb hv W a)
  have A3 := Lib.hid (fun M X S W (a : Asks M X S g b s (shows m d h i k) W) => asks_any 3 (by decide) 3 rfl M X S g b s (shows m d h i k) hb hv W a)
  have A4 := Lib.hid (fun M X S W (a : Asks M X S g b s (shows m d h i k) W) => asks_any 4 (by decide) 4 rfl M X S g b s (shows m d h i k) hb hv W a)
  have e2 : shows m d h i k 2 = d := rfl
  have e3 : shows m d h i k 3 = m := rfl
  have e4 : shows m d h i k 4 = k := rfl
  rw [e2] at A2
  rw [e3] at A3
  rw [e4] at A4
  generalize (g && Fld.has (b 2) d) = p2 at *
  generalize (g && Fld.has (b 3) m) = p3 at *
  generalize (g && Fld.has (b 4) k) = p4 at *
  unfold xval xcells at *
  have AK := Lib.hid AK
  clear e2 e3 e4 hb hv
  go_enter Tryz.func15, Tryz.ntmps15
  go_wp2_with fail
  with_reducible refine (AK.out _ (HW.out.next BX0.out.bel)).mono ?_
  rintro e w1 ⟨M, X, S, rfl, ha, hb1⟩
  have BX1 := Lib.hid (BX0.out.below hb1)
  have HA1 := Lib.hid ha
  clear ha hb1 BX0 AK
  go_wp2_with fail
  with_reducible refine (A2.out _ _ _ _ HA1.out).mono ?_
  rintro e w2 ⟨rfl, hb2⟩
  have BX2 := Lib.hid (BX1.out.below hb2)
  have HA2 := Lib.hid (HA1.out.below hb2)
  clear hb2 BX1 HA1 A2
  go_wp2_with fail
  with_reducible refine (A4.out _ _ _ _ HA2.out).mono ?_
  rintro e w3 ⟨rfl, hb3⟩
  have BX3 := Lib.hid (BX2.out.below hb3)
  have HA3 := Lib.hid (HA2.out.below hb3)
  clear hb3 BX2 HA2 A4
  obtain ⟨c0, c1, c2, c3, c4, c5, c6, c7, c8, c9⟩ := xobj_cells BX3.out.xr
  clear c0 c1 c2 c3 c4 c6 c7 c8
  have A3' := Lib.hid (A3.out _ _ _ _ HA3.out)
  clear A3
  generalize s 2 = s2 at c5 HE ⊢
  generalize s 4 = s4 at c9 HE ⊢
  cases p2 <;> cases p4 <;> cases s2 <;> cases s4 <;> (go_wp2_with fail) <;> first
    | (go_ret
       exact ⟨by rw [HE.out]; rfl, BX3.out.bel⟩)
    | (with_reducible refine A3'.out.mono ?_
       rintro e w4 ⟨rfl, hb4⟩
       have HB4 := Lib.hid (BX3.out.bel.trans (hb4.mono BX3.out.bel.size))
       clear hb4
       go_wp2_with fail
       go_ret
       exact ⟨by rw [HE.out]; rfl, HB4.out⟩)

set_option maxRecDepth 100000 in
set_option maxHeartbeats 4000000 in
theorem fits_any (b : Nat → Nat) (s : Nat → Bool) (hb : ∀ k, k < 5 → b k < 2 ^ 64) (y m d h i x k : Int) (hv : inInts m d h i k) (w : World) (hw : World7 w) :
    Calls Tryz.prog 13 #[xval b s, .agg #[.int .i64 y, .int .i64 m, .int .i64 d, .int .i64 h, .int .i64 i, .int .i64 x, .int .i64 k]] w fun e w' => e = .returned (.bool (Cron.fits b s y m d h i x k)) ∧ Below w.heap.size w w' := by
  have BX0 := Lib.hid (BX.start w b s y m d h i x k)
  have AK := fun W hW => asker_any b s hb y m d h i x k W hW
  have HE := Lib.hid (Cron.fits_eq b s y m d h i x k)
  have DF := fun W hW => dayFits_any b s hb y m d h i x k hv W hW
  have HW := Lib.hid hw
  generalize (Cron.may b && decide (Stm.may y m d h i x k)) = g at *
  generalize Cron.fits b s y m d h i x k = R at *
  generalize Cron.dayFits b s y m d h i x k = p5 at *
  clear hw
  have A0 := Lib.hid (fun M X S W (a : Asks M X S g b s (shows m d h i k) W) => asks_any 0 (by decide) 0 rfl M X S g b s (shows m d h i k) hb hv W a)
  have A1 := Lib.hid (fun M X S W (a : Asks M X S g b s (shows m d h i k) W) => asks_any 1 (by decide) 1 rfl M X S g b s (shows m d h i k) hb hv W a)
  have e0 : shows m d h i k 0 = i := rfl
  have e1 : shows m d h i k 1 = h := rfl
  rw [e0] at A0
  rw [e1] at A1
  generalize (g && Fld.has (b 0) i) = p0 at *
  generalize (g && Fld.has (b 1) h) = p1 at *
  unfold xval xcells at *
  have AK := Lib.hid AK
  have DF := Lib.hid DF
  clear e0 e1 hb hv
  go_enter Tryz.func13, Tryz.ntmps13
  go_wp2_with fail
  with_reducible refine (AK.out _ (HW.out.next BX0.out.bel)).mono ?_
  rintro e w1 ⟨M, X, S, rfl, ha, hb1⟩
  have BX1 := Lib.hid (BX0.out.below hb1)
  have HA1 := Lib.hid ha
  clear ha hb1 BX0 AK
  go_wp2_with fail
  with_reducible refine (A0.out _ _ _ _ HA1.out).mono ?_
  rintro e w2 ⟨rfl, hb2⟩
  have BX2 := Lib.hid (BX1.out.below hb2)
  have HA2 := Lib.hid (HA1.out.below hb2)
  clear hb2 BX1 HA1 A0
  cases p0
  · go_wp2_with fail
    go_ret
    exact ⟨by rw [HE.out]; rfl, BX2.out.bel⟩
  · go_wp2_with fail
    with_reducible refine (A1.out _ _ _ _ HA2.out).mono ?_
    rintro e w3 ⟨rfl, hb3⟩
    have BX3 := Lib.hid (BX2.out.below hb3)
    clear hb3 BX2 HA2 A1
    cases p1
    · go_wp2_with fail
      go_ret
      exact ⟨by rw [HE.out]; rfl, BX3.out.bel⟩
    · obtain ⟨c0, c1, c2, c3, c4, c5, c6, c7, c8, c9⟩ := xobj_cells BX3.out.xr
      obtain ⟨d0, d1, d2, d3, d4, d5, d6⟩ := Civ.clk_cells BX3.out.cr
      go_wp2_with fail
      with_reducible refine (DF.out _ (HW.out.next BX3.out.bel)).mono ?_
      rintro e w4 ⟨rfl, hb4⟩
      have HB4 := Lib.hid (BX3.out.bel.trans (hb4.mono BX3.out.bel.size))
      clear hb4 c0 c1 c2 c3 c4 c5 c6 c7 c8 c9 d0 d1 d2 d3 d4 d5 d6
      go_wp2_with fail
      go_ret
      exact ⟨by rw [HE.out]; rfl, HB4.out⟩

set_option maxRecDepth 100000 in
set_option maxHeartbeats 4000000 in
theorem refDayFits_any (b : Nat → Nat) (s : Nat → Bool) (hb : ∀ k, k < 5 → b k < 2 ^ 64) (y m d h i x k : Int) (w : World) :
    Calls Tryz.prog 16 #[xval b s, .agg #[.int .i64 y, .int .i64 m, .int .i64 d, .int .i64 h, .int .i64 i, .int .i64 x, .int .i64 k]] w fun e w' => e = .returned (.bool (Cron.dayFits b s y m d h i x k)) ∧ Below w.heap.size w w' := by
  have BX0 := Lib.hid (BX.start w b s y m d h i x k)
  have HE := Cron.dayFits_ref b s y m d h i x k
  have HJ := fun W => Civ.refJoin_any y m d h i x k W
  unfold Civ.joinOf at HJ
  have MX := fun W => refMayX_any b s hb W
  have A2 := fun W => refHas_any (b 2) (hb 2 (by decide)) (s 2) d W
  have A3 := fun W => refHas_any (b 3) (hb 3 (by decide)) (s 3) m W
  have A4 := fun W => refHas_any (b 4) (hb 4 (by decide)) (s 4) k W
  generalize Cron.dayFits b s y m d h i x k = R at *
  generalize Cron.may b = p1 at *
  generalize Fld.has (b 2) d = p2 at *
  generalize Fld.has (b 3) m = p3 at *
  generalize Fld.has (b 4) k = p4 at *
  unfold xval xcells at *
  have MX := Lib.hid MX
  have A2 := Lib.hid A2
  have A3 := Lib.hid A3
  have A4 := Lib.hid A4
  clear hb
  by_cases hm : Stm.may y m d h i x k
  · rw [decide_eq_true hm] at HE
    simp only [if_pos hm] at HJ
    have HJ := Lib.hid HJ
    have HE := Lib.hid HE
    clear hm
    generalize Stm.num y m d h i x = N at *
    go_enter Tryz.func16, Tryz.ntmps16
    go_wp2_with fail
    with_reducible refine (HJ.out _).mono ?_
    rintro e w1 ⟨rfl, hb1⟩
    have BX1 := Lib.hid (BX0.out.below hb1)
    clear hb1 BX0 HJ
    obtain ⟨c0, c1, c2, c3, c4, c5, c6, c7, c8, c9⟩ := xobj_cells BX1.out.xr
    go_wp2_with fail
    with_reducible refine (MX.out _).mono ?_
    rintro e w2 ⟨rfl, hb2⟩
    have BX2 := Lib.hid (BX1.out.below hb2)
    clear hb2 BX1 MX c0 c1 c2 c3 c4 c5 c6 c7 c8 c9
    cases p1
    · go_wp2_with fail
      go_ret
      exact ⟨by rw [HE.out]; rfl, BX2.out.bel⟩
    · obtain ⟨c0, c1, c2, c3, c4, c5, c6, c7, c8, c9⟩ := xobj_cells BX2.out.xr
      obtain ⟨d0, d1, d2, d3, d4, d5, d6⟩ := Civ.clk_cells BX2.out.cr
      go_wp2_with fail
      with_reducible refine (A3.out _).mono ?_
      rintro e w3 ⟨rfl, hb3⟩
      have BX3 := Lib.hid (BX2.out.below hb3)
      clear hb3 BX2 A3 c0 c1 c2 c3 c4 c5 c6 c7 c8 c9 d0 d1 d2 d3 d4 d5 d6
      cases p3
      · go_wp2_with fail
        go_ret
        exact ⟨by rw [HE.out]; rfl, BX3.out.bel⟩
      · obtain ⟨c0, c1, c2, c3, c4, c5, c6, c7, c8, c9⟩ := xobj_cells BX3.out.xr
        obtain ⟨d0, d1, d2, d3, d4, d5, d6⟩ := Civ.clk_cells BX3.out.cr
        go_wp2_with fail
        with_reducible refine (A2.out _).mono ?_
        rintro e w4 ⟨rfl, hb4⟩
        have BX4 := Lib.hid (BX3.out.below hb4)
        clear hb4 BX3 A2 c0 c1 c2 c3 c4 c5 c6 c7 c8 c9 d0 d1 d2 d3 d4 d5 d6
        obtain ⟨c0, c1, c2, c3, c4, c5, c6, c7, c8, c9⟩ := xobj_cells BX4.out.xr
        obtain ⟨d0, d1, d2, d3, d4, d5, d6⟩ := Civ.clk_cells BX4.out.cr
        go_wp2_with fail
        with_reducible refine (A4.out _).mono ?_
        rintro e w5 ⟨rfl, hb5⟩
        have BX5 := Lib.hid (BX4.out.below hb5)
        clear hb5 BX4 A4 c0 c1 c2 c3 c4 c5 c6 c7 c8 c9 d0 d1 d2 d3 d4 d5 d6
        obtain ⟨c0, c1, c2, c3, c4, c5, c6, c7, c8, c9⟩ := xobj_cells BX5.out.xr
        clear c0 c1 c2 c3 c4 c6 c7 c8
        generalize s 2 = s2 at c5 HE ⊢
        generalize s 4 = s4 at c9 HE ⊢
        cases p2 <;> cases p4 <;> cases s2 <;> cases s4 <;> (go_wp2_with fail) <;>
          (go_ret
           exact ⟨by rw [HE.out]; rfl, BX5.out.bel⟩)
  · rw [decide_eq_false hm] at HE
    simp only [if_neg hm] at HJ
    have HJ := Lib.hid HJ
    have HE := Lib.hid HE
    clear hm
    go_enter Tryz.func16, Tryz.ntmps16
    go_wp2_with fail
    with_reducible refine (HJ.out _).mono ?_
    rintro e w1 ⟨rfl, hb1⟩
    have BX1 := Lib.hid (BX0.out.below hb1)
    clear hb1 BX0 HJ
    go_wp2_with fail
    go_ret
    exact ⟨by rw [HE.out]; rfl, BX1.out.bel⟩

set_option maxRecDepth 100000 in
set_option maxHeartbeats 4000000 in
theorem refFits_any (b : Nat → Nat) (s : Nat → Bool) (hb : ∀ k, k < 5 → b k < 2 ^ 64) (y m d h i x k : Int) (w : World) :
    Calls Tryz.prog 14 #[xval b s, .agg #[.int .i64 y, .int .i64 m, .int .i64 d, .int .i64 h, .int .i64 i, .int .i64 x, .int .i64 k]] w fun e w' => e = .returned (.bool (Cron.fits b s y m d h i x k)) ∧ Below w.heap.size w w' := by
  have BX0 := Lib.hid (BX.start w b s y m d h i x k)
  have DF := fun W => refDayFits_any b s hb y m d h i x k W
  have A0 := fun W => refHas_any (b 0) (hb 0 (by decide)) (s 0) i W
  have A1 := fun W => refHas_any (b 1) (hb 1 (by decide)) (s 1) h W
  unfold Cron.fits
  generalize Cron.dayFits b s y m d h i x k = p5 at *
  generalize Fld.has (b 0) i = p0 at *
  generalize Fld.has (b 1) h = p1 at *
  unfold xval xcells at *
  have DF := Lib.hid DF
  have A0 := Lib.hid A0
  have A1 := Lib.hid A1
  clear hb
  go_enter Tryz.func14, Tryz.ntmps14
  go_wp2_with fail
  with_reducible refine (DF.out _).mono ?_
  rintro e w1 ⟨rfl, hb1⟩
  have BX1 := Lib.hid (BX0.out.below hb1)
  clear hb1 BX0 DF
  cases p5
  · go_wp2_with fail
    go_ret
    exact ⟨rfl, BX1.out.bel⟩
  · obtain ⟨c0, c1, c2, c3, c4, c5, c6, c7, c8, c9⟩ := xobj_cells BX1.out.xr
    obtain ⟨d0, d1, d2, d3, d4, d5, d6⟩ := Civ.clk_cells BX1.out.cr
    go_wp2_with fail
    with_reducible refine (A0.out _).mono ?_
    rintro e w2 ⟨rfl, hb2⟩
    have BX2 := Lib.hid (BX1.out.below hb2)
    clear hb2 BX1 A0 c0 c1 c2 c3 c4 c5 c6 c7 c8 c9 d0 d1 d2 d3 d4 d5 d6
    cases p0
    · go_wp2_with fail
      go_ret
      exact ⟨rfl, BX2.out.bel⟩
    · obtain ⟨c0, c1, c2, c3, c4, c5, c6, c7, c8, c9⟩ := xobj_cells BX2.out.xr
      obtain ⟨d0, d1, d2, d3, d4, d5, d6⟩ := Civ.clk_cells BX2.out.cr
      go_wp2_with fail
      with_reducible refine (A1.out _).mono ?_
      rintro e w3 ⟨rfl, hb3⟩
      have BX3 := Lib.hid (BX2.out.below hb3)
      clear hb3 BX2 A1 c0 c1 c2 c3 c4 c5 c6 c7 c8 c9 d0 d1 d2 d3 d4 d5 d6
      cases p1 <;> (go_wp2_with fail) <;> (go_ret; exact ⟨rfl, BX3.out.bel⟩)
end Go.Proofs.YtoamhjcnajljlaaGreatDoor
