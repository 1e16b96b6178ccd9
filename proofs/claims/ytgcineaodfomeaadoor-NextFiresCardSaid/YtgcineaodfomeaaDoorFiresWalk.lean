/- The statement NextFires, walked: the program's After and Last are the reference's. -/
import Derived.Test.YtgcineaodfomeaaDoorKnown8
import Derived.Test.YtgcineaodfomeaaDoorRefLast8
namespace Go.Proofs.YtgcineaodfomeaaDoor
open Go.RowKit

set_option maxRecDepth 100000 in
set_option maxHeartbeats 4000000 in
theorem fires_walk (b : Nat → Nat) (s : Nat → Bool) (hb : ∀ k, k < 5 → b k < 2 ^ 64) (t : Int) (w : World) (hw : World7 w) :
    Calls Tryd.prog 3 #[xval b s, .int .i64 t] w fun e w' => e = .returned (.bool true) ∧ Below w.heap.size w w' := by
  have O0 := Lib.hid (OwnX.new w b s)
  have HK := Lib.hid (fun W hW => known8_any W hW)
  have HA := Lib.hid (fun W hW => after_any b s hb t W hW)
  have HRA := Lib.hid (fun W => refAfter_any b s hb t W)
  have HL := Lib.hid (fun W hW => last_any b s hb t W hW)
  have HRL := Lib.hid (fun W => refLast_any b s hb t W)
  have HW := Lib.hid hw
  clear hb hw
  unfold xval xcells at *
  go_enter Tryd.func3, Tryd.ntmps3
  go_wp2_with fail
  with_reducible refine (HK.out _ (HW.out.next O0.out.bel)).mono ?_
  rintro e w1 ⟨rfl, b1⟩
  have O1 := Lib.hid (O0.out.below b1)
  clear b1 O0 HK
  obtain ⟨x0, x1, x2, x3, x4, x5, x6, x7, x8, x9⟩ := xobj_cells O1.out.row
  go_wp2_with fail
  with_reducible refine (HA.out _ (HW.out.next O1.out.bel)).mono ?_
  rintro e w2 ⟨⟨p1, p2⟩, hp, rfl, b2⟩
  have O2 := Lib.hid (O1.out.below b2)
  clear b2 O1 HA x0 x1 x2 x3 x4 x5 x6 x7 x8 x9
  obtain ⟨x0, x1, x2, x3, x4, x5, x6, x7, x8, x9⟩ := xobj_cells O2.out.row
  have HP := Lib.hid hp
  clear hp
  unfold Fire.told
  dsimp only
  go_wp2_with fail
  with_reducible refine (HRA.out _).mono ?_
  rintro e w3 ⟨q, hq, rfl, b3⟩
  obtain rfl := Fire.afterT_one HP.out hq
  have O3 := Lib.hid (O2.out.below b3)
  clear b3 O2 HRA HP hq x0 x1 x2 x3 x4 x5 x6 x7 x8 x9
  obtain ⟨x0, x1, x2, x3, x4, x5, x6, x7, x8, x9⟩ := xobj_cells O3.out.row
  unfold Fire.told
  dsimp only
  go_wp2_with fail
  with_reducible refine (HL.out _ (HW.out.next O3.out.bel)).mono ?_
  rintro e w4 ⟨⟨r1, r2⟩, hr, rfl, b4⟩
  have O4 := Lib.hid (O3.out.below b4)
  clear b4 O3 HL x0 x1 x2 x3 x4 x5 x6 x7 x8 x9
  obtain ⟨x0, x1, x2, x3, x4, x5, x6, x7, x8, x9⟩ := xobj_cells O4.out.row
  have HR := Lib.hid hr
  clear hr
  unfold Fire.told
  dsimp only
  go_wp2_with fail
  with_reducible refine (HRL.out _).mono ?_
  rintro e w5 ⟨q, hq, rfl, b5⟩
  obtain rfl := Fire.lastT_one HR.out hq
  have O5 := Lib.hid (O4.out.below b5)
  clear b5 O4 HRL HR hq x0 x1 x2 x3 x4 x5 x6 x7 x8 x9
  unfold Fire.told
  dsimp only
  go_wp2_with fail
  go_ret
  exact ⟨rfl, O5.out.bel⟩
end Go.Proofs.YtgcineaodfomeaaDoor
