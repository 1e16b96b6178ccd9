/- FieldAsks's walk. -/
import Derived.Test.YtdoahooadjbgjaaDoorRefText
import Derived.Test.YtdoahooadjbgjaaDoorKnown6
import Derived.Deep.RegionHeld3
namespace Go.Proofs.YtdoahooadjbgjaaDoor
open Go.RowKit

set_option maxRecDepth 100000 in
set_option maxHeartbeats 4000000 in
theorem asks_law (k n : Int) (b : Nat) (hb : b < 2 ^ 64) (star : Bool) (w : World) (hw : TabsOn w) (hn : -9223372036854775808 ≤ n ∧ n ≤ 9223372036854775807) :
    Calls Tryd.prog 4 #[.int .i64 k, .agg #[.int .u64 (b : Int), .bool star], .int .i64 n] w fun e w' => e = .returned (.bool true) ∧ Below w.heap.size w w' := by
  have o := OwnF.new w b star
  have O := Lib.hid o
  have HW := Lib.hid hw
  have F1 := fun W hW => first_any b hb star n W hW hn
  have F2 := refFirst_any b hb star n
  obtain ⟨x, y, hxy⟩ : ∃ (x : Int) (y : Bool), firstOf b n = .tuple #[.int .i64 x, .bool y] := ⟨_, _, rfl⟩
  rw [hxy] at F1 F2
  have M1 := fun W hW => may_any k b hb star W hW
  have M2 := refMay_any k b hb star
  have A1 := fun W => has_any b hb star n W hn
  have A2 := refHas_any b hb star n
  have T1 := fun W hW => text_any k b hb star W hW
  have T2 := refText_any k b hb star
  unfold fval at M1 T1
  have K1 := fun W hW => known_law W hW
  generalize Fld.may k b = m at *
  generalize Fld.has b n = h at *
  generalize ba (Fld.text k b star) = tv at *
  have F1 := Lib.hid F1
  have F2 := Lib.hid F2
  have M1 := Lib.hid M1
  have M2 := Lib.hid M2
  have A1 := Lib.hid A1
  have A2 := Lib.hid A2
  have T1 := Lib.hid T1
  have T2 := Lib.hid T2
  have K1 := Lib.hid K1
  clear o hw hxy
  go_enter Tryd.func4, Tryd.ntmps4
  go_wp2_with fail
  with_reducible refine (F1.out _ (HW.out.next O.out.bel)).mono ?_
  rintro e w1 ⟨rfl, hb1⟩
  have O1 := Lib.hid (O.out.below hb1)
  clear hb1 O F1
  obtain ⟨c0, c1⟩ : _ ∧ _ := O1.out.cells
  go_wp2_with fail
  with_reducible refine (F2.out _).mono ?_
  rintro e w2 ⟨rfl, hb2⟩
  have O2 := Lib.hid (O1.out.below hb2)
  clear hb2 O1 F2 c0 c1
  obtain ⟨c0, c1⟩ : _ ∧ _ := O2.out.cells
  have TW := Lib.hid (fun W (hB : Below w2.heap.size w2 W) => HW.out.next (O2.out.bel.trans (hB.mono O2.out.bel.size)))
  go_wp2_with fail
  go_region_held3 (fun w' => w'.cell? ⟨w.heap.size, 0, none⟩ = some (.int .u64 (b : Int)) ∧ w'.cell? ⟨w.heap.size, 1, none⟩ = some (.bool star) ∧ Below w2.heap.size w2 w')
    (first
      | exact ⟨c0, c1, (Below.refl _ _).drew⟩
      | go_keep
      | (go_split_ands; exact ⟨stays hb9 (by assumption), stays hb9 (by assumption), Below.trans (by assumption) (hb9.mono (Below.size (by assumption)))⟩))
    (first
      | (go_at_call 12; (try go_split_ands); with_reducible refine (M1.out _ (TW.out _ (by assumption))).mono ?_; rintro e w9 ⟨rfl, hb9⟩)
      | (go_at_call 13; with_reducible refine (M2.out _).mono ?_; rintro e w9 ⟨rfl, hb9⟩)
      | (go_at_call 14; with_reducible refine (A1.out _).mono ?_; rintro e w9 ⟨rfl, hb9⟩)
      | (go_at_call 15; with_reducible refine (A2.out _).mono ?_; rintro e w9 ⟨rfl, hb9⟩)
      | (go_at_call 16; (try go_split_ands); with_reducible refine (T1.out _ (TW.out _ (by assumption))).mono ?_; rintro e w9 ⟨rfl, hb9⟩)
      | (go_at_call 17; with_reducible refine (T2.out _).mono ?_; rintro e w9 ⟨rfl, hb9⟩)
      | (go_at_call 7; (try go_split_ands); with_reducible refine (K1.out _ (TW.out _ (by assumption))).mono ?_; rintro e w9 ⟨rfl, hb9⟩))
  rename_i hHeld
  obtain ⟨_, _, hBW⟩ := hHeld
  have HB := Lib.hid (O2.out.bel.trans (hBW.mono O2.out.bel.size))
  clear hBW
  go_wp2_with fail
  go_ret
  exact ⟨rfl, HB.out⟩
end Go.Proofs.YtdoahooadjbgjaaDoor
