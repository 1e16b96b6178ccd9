/- CronFits's walk. -/
import Derived.Test.YtoamhjcnajljlaaGreatDoorKnown7
import Derived.Test.YtoamhjcnajljlaaGreatDoorTextX
namespace Go.Proofs.YtoamhjcnajljlaaGreatDoor
open Go.RowKit

set_option maxRecDepth 100000 in
set_option maxHeartbeats 8000000 in
theorem fits_law (b : Nat → Nat) (s : Nat → Bool) (hb : ∀ k, k < 5 → b k < 2 ^ 64) (y m d h i x k : Int) (hv : inInts m d h i k) (w : World) (hw : World7 w) (hn : NamesOn w) :
    Calls Tryz.prog 4 #[xval b s, .agg #[.int .i64 y, .int .i64 m, .int .i64 d, .int .i64 h, .int .i64 i, .int .i64 x, .int .i64 k]] w fun e w' => e = .returned (.bool true) ∧ Below w.heap.size w w' := by
  have BX0 := BX.start w b s y m d h i x k
  have M1 := fun W hW => mayX_any b s hb W hW
  have M2 := fun W => refMayX_any b s hb W
  have T1 := fun W hW => textX_any b s hb W hW
  have T2 := fun W => refTextX_any b s hb W
  have F1 := fun W hW => fits_any b s hb y m d h i x k hv W hW
  have F2 := fun W => refFits_any b s hb y m d h i x k W
  have D1 := fun W hW => dayFits_any b s hb y m d h i x k hv W hW
  have D2 := fun W => refDayFits_any b s hb y m d h i x k W
  have K1 := fun W hW hN => known7_any W hW hN
  generalize Cron.may b = mv at *
  generalize ba (Cron.text b s) = tv at *
  generalize Cron.fits b s y m d h i x k = fv at *
  generalize Cron.dayFits b s y m d h i x k = dv at *
  unfold xval xcells at *
  have HW := Lib.hid hw
  have HN := Lib.hid hn
  have M1 := Lib.hid M1
  have M2 := Lib.hid M2
  have T1 := Lib.hid T1
  have T2 := Lib.hid T2
  have F1 := Lib.hid F1
  have F2 := Lib.hid F2
  have D1 := Lib.hid D1
  have D2 := Lib.hid D2
  have K1 := Lib.hid K1
  clear hw hn hb hv
  go_enter Tryz.func4, Tryz.ntmps4
  go_wp2_with fail
  generalize ((w.alloc (.cells #[.int .u64 ((b 0 : Nat) : Int), .bool (s 0), .int .u64 ((b 1 : Nat) : Int), .bool (s 1), .int .u64 ((b 2 : Nat) : Int), .bool (s 2), .int .u64 ((b 3 : Nat) : Int), .bool (s 3), .int .u64 ((b 4 : Nat) : Int), .bool (s 4)] 27)).alloc (.cells #[.int .i64 y, .int .i64 m, .int .i64 d, .int .i64 h, .int .i64 i, .int .i64 x, .int .i64 k] 35)) = W0 at *
  obtain ⟨c0, c1, c2, c3, c4, c5, c6, c7, c8, c9⟩ := xobj_cells BX0.xr
  obtain ⟨d0, d1, d2, d3, d4, d5, d6⟩ := Civ.clk_cells BX0.cr
  have HB := Lib.hid BX0.bel
  clear BX0
  have TW := Lib.hid (fun W (hB : Below W0.heap.size W0 W) => HW.out.next (HB.out.trans (hB.mono HB.out.size)))
  have TN := Lib.hid (fun W (hB : Below W0.heap.size W0 W) => HN.out.next (HB.out.trans (hB.mono HB.out.size)))
  go_region_held3 (fun w' => w'.cell? ⟨w.heap.size, 0, none⟩ = some (.int .u64 ((b 0 : Nat) : Int)) ∧ w'.cell? ⟨w.heap.size, 1, none⟩ = some (.bool (s 0)) ∧ w'.cell? ⟨w.heap.size, 2, none⟩ = some (.int .u64 ((b 1 : Nat) : Int)) ∧ w'.cell? ⟨w.heap.size, 3, none⟩ = some (.bool (s 1)) ∧ w'.cell? ⟨w.heap.size, 4, none⟩ = some (.int .u64 ((b 2 : Nat) : Int)) ∧ w'.cell? ⟨w.heap.size, 5, none⟩ = some (.bool (s 2)) ∧ w'.cell? ⟨w.heap.size, 6, none⟩ = some (.int .u64 ((b 3 : Nat) : Int)) ∧ w'.cell? ⟨w.heap.size, 7, none⟩ = some (.bool (s 3)) ∧ w'.cell? ⟨w.heap.size, 8, none⟩ = some (.int .u64 ((b 4 : Nat) : Int)) ∧ w'.cell? ⟨w.heap.size, 9, none⟩ = some (.bool (s 4)) ∧ w'.cell? ⟨w.heap.size + 1, 0, none⟩ = some (.int .i64 y) ∧ w'.cell? ⟨w.heap.size + 1, 1, none⟩ = some (.int .i64 m) ∧ w'.cell? ⟨w.heap.size + 1, 2, none⟩ = some (.int .i64 d) ∧ w'.cell? ⟨w.heap.size + 1, 3, none⟩ = some (.int .i64 h) ∧ w'.cell? ⟨w.heap.size + 1, 4, none⟩ = some (.int .i64 i) ∧ w'.cell? ⟨w.heap.size + 1, 5, none⟩ = some (.int .i64 x) ∧ w'.cell? ⟨w.heap.size + 1, 6, none⟩ = some (.int .i64 k) ∧ Below W0.heap.size W0 w')
    (first
      | exact ⟨c0, c1, c2, c3, c4, c5, c6, c7, c8, c9, d0, d1, d2, d3, d4, d5, d6, (Below.refl _ _).drew⟩
      | go_keep
      | (go_split_ands; exact ⟨stays hb9 (by assumption), stays hb9 (by assumption), stays hb9 (by assumption), stays hb9 (by assumption), stays hb9 (by assumption), stays hb9 (by assumption), stays hb9 (by assumption), stays hb9 (by assumption), stays hb9 (by assumption), stays hb9 (by assumption), stays hb9 (by assumption), stays hb9 (by assumption), stays hb9 (by assumption), stays hb9 (by assumption), stays hb9 (by assumption), stays hb9 (by assumption), stays hb9 (by assumption), Below.trans (by assumption) (hb9.mono (Below.size (by assumption)))⟩))
    (first
      | (go_at_call 9; (try go_split_ands); with_reducible refine (M1.out _ (TW.out _ (by assumption)).tabs).mono ?_; rintro e w9 ⟨rfl, hb9⟩)
      | (go_at_call 10; with_reducible refine (M2.out _).mono ?_; rintro e w9 ⟨rfl, hb9⟩)
      | (go_at_call 11; (try go_split_ands); with_reducible refine (T1.out _ (TW.out _ (by assumption)).tabs).mono ?_; rintro e w9 ⟨rfl, hb9⟩)
      | (go_at_call 12; with_reducible refine (T2.out _).mono ?_; rintro e w9 ⟨rfl, hb9⟩)
      | (go_at_call 13; (try go_split_ands); with_reducible refine (F1.out _ (TW.out _ (by assumption))).mono ?_; rintro e w9 ⟨rfl, hb9⟩)
      | (go_at_call 14; with_reducible refine (F2.out _).mono ?_; rintro e w9 ⟨rfl, hb9⟩)
      | (go_at_call 15; (try go_split_ands); with_reducible refine (D1.out _ (TW.out _ (by assumption))).mono ?_; rintro e w9 ⟨rfl, hb9⟩)
      | (go_at_call 16; with_reducible refine (D2.out _).mono ?_; rintro e w9 ⟨rfl, hb9⟩)
      | (go_at_call 6; (try go_split_ands); with_reducible refine (K1.out _ (TW.out _ (by assumption)) (TN.out _ (by assumption))).mono ?_; rintro e w9 ⟨rfl, hb9⟩)
      | fail)
  rename_i hHeld
  have hBW : Below W0.heap.size W0 _ := (hHeld.2.2.2.2.2.2.2.2.2.2.2.2.2.2.2.2.2)
  go_wp2_with fail
  go_ret
  exact ⟨rfl, HB.out.trans (hBW.mono HB.out.size)⟩
end Go.Proofs.YtoamhjcnajljlaaGreatDoor
