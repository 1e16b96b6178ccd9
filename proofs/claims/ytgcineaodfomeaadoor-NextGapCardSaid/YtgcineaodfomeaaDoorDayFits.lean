/- cron.DayFits, cron.Fits, and the reference's, by their contracts. -/
import Derived.Test.YtgcineaodfomeaaDoorAsker
import Derived.Test.YtgcineaodfomeaaDoorCJoinR
namespace Go.Proofs.YtgcineaodfomeaaDoor
open Go.RowKit

namespace Cron
theorem dayFits_eq (b : Nat → Nat) (s : Nat → Bool) (y m d h i x k : Int) : dayFits b s y m d h i x k = ((bif s 2 || s 4 then ((may b && decide (Stm.may y m d h i x k)) && Fld.has (b 2) d) && ((may b && decide (Stm.may y m d h i x k)) && Fld.has (b 4) k) else ((may b && decide (Stm.may y m d h i x k)) && Fld.has (b 2) d) || ((may b && decide (Stm.may y m d h i x k)) && Fld.has (b 4) k)) && ((may b && decide (Stm.may y m d h i x k)) && Fld.has (b 3) m)) := by
  unfold dayFits days
  generalize may b = p1
  generalize decide (Stm.may y m d h i x k) = p2
  generalize Fld.has (b 2) d = p3
  generalize Fld.has (b 3) m = p4
  generalize Fld.has (b 4) k = p5
  generalize s 2 = q1
  generalize s 4 = q2
  revert p1 p2 p3 p4 p5 q1 q2
  decide
theorem fits_eq (b : Nat → Nat) (s : Nat → Bool) (y m d h i x k : Int) : fits b s y m d h i x k = (((may b && decide (Stm.may y m d h i x k)) && Fld.has (b 0) i) && (((may b && decide (Stm.may y m d h i x k)) && Fld.has (b 1) h) && dayFits b s y m d h i x k)) := by
  unfold fits dayFits
  generalize may b = p1
  generalize decide (Stm.may y m d h i x k) = p2
  generalize Fld.has (b 0) i = p3
  generalize Fld.has (b 1) h = p4
  generalize days b s m d k = p5
  revert p1 p2 p3 p4 p5
  decide
theorem dayFits_ref (b : Nat → Nat) (s : Nat → Bool) (y m d h i x k : Int) : dayFits b s y m d h i x k = (decide (Stm.may y m d h i x k) && (may b && (Fld.has (b 3) m && (bif !(s 2) && !(s 4) then Fld.has (b 2) d || Fld.has (b 4) k else Fld.has (b 2) d && Fld.has (b 4) k)))) := by
  unfold dayFits days
  generalize may b = p1
  generalize decide (Stm.may y m d h i x k) = p2
  generalize Fld.has (b 2) d = p3
  generalize Fld.has (b 3) m = p4
  generalize Fld.has (b 4) k = p5
  generalize s 2 = q1
  generalize s 4 = q2
  revert p1 p2 p3 p4 p5 q1 q2
  decide
end Cron

/-- that a clock's numbers are numbers of the machine's -/
def inInts (m d h i k : Int) : Prop := ∀ j, j < 5 → -9223372036854775808 ≤ shows m d h i k j ∧ shows m d h i k j ≤ 9223372036854775807
set_option maxRecDepth 100000 in
set_option maxHeartbeats 4000000 in
theorem dayFits_any (b : Nat → Nat) (s : Nat → Bool) (hb : ∀ k, k < 5 → b k < 2 ^ 64) (y m d h i x k : Int) (hv : inInts m d h i k) (w : World) (hw : World7 w) :
    Calls Tryd.prog 30 #[xval b s, .agg #[.int .i64 y, .int .i64 m, .int .i64 d, .int .i64 h, .int .i64 i, .int .i64 x, .int .i64 k]] w fun e w' => e = .returned (.bool (Cron.dayFits b s y m d h i x k)) ∧ Below w.heap.size w w' := by
  have BX0 := Lib.hid (BX.start w b s y m d h i x k)
  have AK := fun W hW => asker_any b s hb y m d h i x k W hW
  have HE := Lib.hid (Cron.dayFits_eq b s y m d h i x k)
  have HW := Lib.hid hw
  generalize (Cron.may b && decide (Stm.may y m d h i x k)) = g at *
  generalize Cron.dayFits b s y m d h i x k = R at *
  clear hw
  have A2 := Lib.hid (fun M X S W (a : Asks M X S g b s (shows m d h i k) W) => asks_any 2 (by decide) 2 rfl M X S g b s (shows m d h i k) hb hv W a)
  have A3 := Lib.hid (fun M X S W (a : Asks M X S g b s (shows m d h i k) W) => asks_any 3 (by decide) 3 rfl M X S g b s (shows m d h i k) hb hv W a)
  have A4 := Lib.hid (fun M X S W (a : Asks M X S g b s (shows m d h i k) W) => asks_any 4 (by decide) 4 rfl M X S g b s (shows m d h i k) hb hv W a)
  have e2 : shows m d h i k 2 = d := rfl
  have e3 : shows m d h i k 3 = m := rfl
  have e4 : shows m d h i k 4 = k := rfl
  rw [e2] at A2
  rw [e3] at A3
  rw [e4] at A4
  generalize (g && Fld.has (b 2) d) = p2 at *
  generalize (g && Fld.has (b 3) m) = p3 at *
  generalize (g && Fld.has (b 4) k) = p4 at *
  unfold xval xcells at *
  have AK := Lib.hid AK
  clear e2 e3 e4 hb hv
  go_enter Tryd.func30, Tryd.ntmps30
  go_wp2_with fail
  with_reducible refine (AK.out _ (HW.out.next BX0.out.bel)).mono ?_
  rintro e w1 ⟨M, X, S, rfl, ha, hb1⟩
  have BX1 := Lib.hid (BX0.out.below hb1)
  have HA1 := Lib.hid ha
  clear ha hb1 BX0 AK
  go_wp2_with fail
  with_reducible refine (A2.out _ _ _ _ HA1.out).mono ?_
  rintro e w2 ⟨rfl, hb2⟩
  have BX2 := Lib.hid (BX1.out.below hb2)
  have HA2 := Lib.hid (HA1.out.below hb2)
  clear hb2 BX1 HA1 A2
  go_wp2_with fail
  with_reducible refine (A4.out _ _ _ _ HA2.out).mono ?_
  rintro e w3 ⟨rfl, hb3⟩
  have BX3 := Lib.hid (BX2.out.below hb3)
  have HA3 := Lib.hid (HA2.out.below hb3)
  clear hb3 BX2 HA2 A4
  obtain ⟨c0, c1, c2, c3, c4, c5, c6, c7, c8, c9⟩ := xobj_cells BX3.out.xr
  clear c0 c1 c2 c3 c4 c6 c7 c8
  have A3' := Lib.hid (A3.out _ _ _ _ HA3.out)
  clear A3
  generalize s 2 = s2 at c5 HE ⊢
  generalize s 4 = s4 at c9 HE ⊢
  cases p2 <;> cases p4 <;> cases s2 <;> cases s4 <;> (go_wp2_with fail) <;> first
    | (go_ret
       exact ⟨by rw [HE.out]; rfl, BX3.out.bel⟩)
    | (with_reducible refine A3'.out.mono ?_
       rintro e w4 ⟨rfl, hb4⟩
       have HB4 := Lib.hid (BX3.out.bel.trans (hb4.mono BX3.out.bel.size))
       clear hb4
       go_wp2_with fail
       go_ret
       exact ⟨by rw [HE.out]; rfl, HB4.out⟩)

set_option maxRecDepth 100000 in
set_option maxHeartbeats 4000000 in
theorem fits_any (b : Nat → Nat) (s : Nat → Bool) (hb : ∀ k, k < 5 → b k < 2 ^ 64) (y m d h i x k : Int) (hv : inInts m d h i k) (w : World) (hw : World7 w) :
    Calls Tryd.prog 12 #[xval b s, .agg #[.int .i64 y, .int .i64 m, .int .i64 d, .int .i64 h, .int .i64 i, .int .i64 x, .int .i64 k]] w fun e w' => e = .returned (.bool (Cron.fits b s y m d h i x k)) ∧ Below w.heap.size w w' := by
  have BX0 := Lib.hid (BX.start w b s y m d h i x k)
  have AK := fun W hW => asker_any b s hb y m d h i x k W hW
  have HE := Lib.hid (Cron.fits_eq b s y m d h i x k)
  have DF := fun W hW => dayFits_any b s hb y m d h i x k hv W hW
  have HW := Lib.hid hw
  generalize (Cron.may b && decide (Stm.may y m d h i x k)) = g at *
  generalize Cron.fits b s y m d h i x k = R at *
  generalize Cron.dayFits b s y m d h i x k = p5 at *
  clear hw
  have A0 := Lib.hid (fun M X S W (a : Asks M X S g b s (shows m d h i k) W) => asks_any 0 (by decide) 0 rfl M X S g b s (shows m d h i k) hb hv W a)
  have A1 := Lib.hid (fun M X S W (a : Asks M X S g b s (shows m d h i k) W) => asks_any 1 (by decide) 1 rfl M X S g b s (shows m d h i k) hb hv W a)
  have e0 : shows m d h i k 0 = i := rfl
  have e1 : shows m d h i k 1 = h := rfl
  rw [e0] at A0
  rw [e1] at A1
  generalize (g && Fld.has (b 0) i) = p0 at *
  generalize (g && Fld.has (b 1) h) = p1 at *
  unfold xval xcells at *
  have AK := Lib.hid AK
  have DF := Lib.hid DF
  clear e0 e1 hb hv
  go_enter Tryd.func12, Tryd.ntmps12
  go_wp2_with fail
  with_reducible refine (AK.out _ (HW.out.next BX0.out.bel)).mono ?_
  rintro e w1 ⟨M, X, S, rfl, ha, hb1⟩
  have BX1 := Lib.hid (BX0.out.below hb1)
  have HA1 := Lib.hid ha
  clear ha hb1 BX0 AK
  go_wp2_with fail
  with_reducible refine (A0.out _ _ _ _ HA1.out).mono ?_
  rintro e w2 ⟨rfl, hb2⟩
  have BX2 := Lib.hid (BX1.out.below hb2)
  have HA2 := Lib.hid (HA1.out.below hb2)
  clear hb2 BX1 HA1 A0
  cases p0
  · go_wp2_with fail
    go_ret
    exact ⟨by rw [HE.out]; rfl, BX2.out.bel⟩
  · go_wp2_with fail
    with_reducible refine (A1.out _ _ _ _ HA2.out).mono ?_
    rintro e w3 ⟨rfl, hb3⟩
    have BX3 := Lib.hid (BX2.out.below hb3)
    clear hb3 BX2 HA2 A1
    cases p1
    · go_wp2_with fail
      go_ret
      exact ⟨by rw [HE.out]; rfl, BX3.out.bel⟩
    · obtain ⟨c0, c1, c2, c3, c4, c5, c6, c7, c8, c9⟩ := xobj_cells BX3.out.xr
      obtain ⟨d0, d1, d2, d3, d4, d5, d6⟩ := Civ.clk_cells BX3.out.cr
      go_wp2_with fail
      with_reducible refine (DF.out _ (HW.out.next BX3.out.bel)).mono ?_
      rintro e w4 ⟨rfl, hb4⟩
      have HB4 := Lib.hid (BX3.out.bel.trans (hb4.mono BX3.out.bel.size))
      clear hb4 c0 c1 c2 c3 c4 c5 c6 c7 c8 c9 d0 d1 d2 d3 d4 d5 d6
      go_wp2_with fail
      go_ret
      exact ⟨by rw [HE.out]; rfl, HB4.out⟩

end Go.Proofs.YtgcineaodfomeaaDoor
