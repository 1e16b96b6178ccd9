/- The law's known rows. -/
import Derived.Test.YthbaldjdfehhlaaLit13
import Derived.Test.YthbaldjdfehhlaaReach13
import Derived.Test.YthbaldjdfehhlaaUsers13
import Derived.Test.YthbaldjdfehhlaaOrd13
import Derived.Test.YthbaldjdfehhlaaRefOrder13
namespace Go.Proofs.Ythbaldjdfehhlaa
open Go.RowKit Gr Go.Sort Go.Maps Go.Shelf

theorem small {x : Int} (h : (decide (0 ≤ x) && decide (x < 1000)) = true) : U64 x := by
  simp at h
  exact ⟨h.1, by omega⟩
theorem path21 (w : World) : Path (rowOf (litL0 w)) 2 1 := by
  refine .more (b := 3) ?_ (.one ?_)
  · exact ⟨(2, [3]), by simp [rowOf, litL0, one, NodeV.node], rfl, by simp⟩
  · exact ⟨(3, [1]), by simp [rowOf, litL0, one, NodeV.node], rfl, by simp⟩

set_option maxRecDepth 100000 in
set_option maxHeartbeats 4000000 in
theorem known_any (w : World) : Calls Try.prog 6 #[] w fun e w' => e = .returned (.bool true) ∧ Below w.heap.size w w' := by
  have hlen : (litL0 w).length = 3 := rfl
  have hdl : ∀ v ∈ litL0 w, v.deps.length ≤ 100000 := fun v hv => by
    simp [litL0, one] at hv
    rcases hv with rfl | rfl | rfl <;> simp
  have HO := Lib.hid (order_any (c := 3) (lit0 w) (by rw [hlen]; omega) hdl)
  have hm : mayOf (rowOf (litL0 w)) = 0 := by kernel_rfl
  have ho : ordOf (rowOf (litL0 w)) = [1, 3, 2] := by kernel_rfl
  have hu : useOf (rowOf (litL0 w)) 3 = [2] := by kernel_rfl
  have HL := Lib.hid (lit0 w)
  have HB0 := Lib.hid (lit0_below w)
  have HDL := Lib.hid hdl
  have HU := Lib.hid hu
  clear hdl hu
  go_enter Try.func6, Try.ntmps6
  go_wp2_with fail
  refine HO.out.mono ?_
  rintro e w1 ⟨v, rfl, hrow, hb⟩
  rw [ho] at hrow
  rw [hm]
  obtain ⟨va, vc, rfl⟩ := hrow.shape
  have HB1 := Lib.hid (HB0.out.trans (hb.mono HB0.out.size))
  have HL1 := Lib.hid (HL.out.below hb)
  have hrd := (hrow.read (fun x hx => by simp at hx; rcases hx with rfl | rfl | rfl <;> exact small rfl)).1
  have HS := Lib.hid (refSame_any (c := vc) (d := 3) (hrd.below ((Below.refl _ w1).alloc (Nat.le_refl _) (.cells ([1, 3, 2].map encU).toArray 23))) (nums_lit w1 [1, 3, 2] (fun x hx => by simp at hx; rcases hx with rfl | rfl | rfl <;> exact small rfl)) (by simp))
  clear hrow hb hrd HO hm ho
  go_wp2_with fail
  refine HS.out.mono ?_
  rintro e w2 ⟨rfl, hdr⟩
  have hb12 : Below w1.heap.size w1 w2 := ((Below.refl _ w1).alloc (Nat.le_refl _) _).trans (hdr.bel.mono (by simp))
  have HB2 := Lib.hid (HB1.out.trans (hb12.mono HB1.out.size))
  have HL2 := Lib.hid (HL1.out.below hb12)
  have hm2 : mayOf (rowOf [one 1 w2.heap.size 2, one 2 (w2.heap.size + 1) 1]) = 131 := by kernel_rfl
  have M2 := may_any (c := 2) (lit2 w2 (small (x := 1) rfl) (small (x := 2) rfl) (small (x := 2) rfl) (small (x := 1) rfl)) (by simp) (fun v hv => by simp [one] at hv; rcases hv with rfl | rfl <;> simp)
  rw [hm2] at M2
  have HM2 := Lib.hid M2
  clear hdr hb12 hm2 M2 HS
  go_wp2_with fail
  refine HM2.out.mono ?_
  rintro e w3 ⟨rfl, hb⟩
  have hb23 := (lit2_below w2 1 2 2 1).trans (hb.mono (lit2_below w2 1 2 2 1).size)
  have HB3 := Lib.hid (HB2.out.trans (hb23.mono HB2.out.size))
  have HL3 := Lib.hid (HL2.out.below hb23)
  have hm3 : mayOf (rowOf [one 1 w3.heap.size 5]) = 5 := by kernel_rfl
  have M3 := may_any (c := 1) (lit1 w3 (small (x := 1) rfl) (small (x := 5) rfl)) (by simp) (fun v hv => by simp [one] at hv; subst hv; simp)
  rw [hm3] at M3
  have HM3 := Lib.hid M3
  clear hb hb23 hm3 M3 HM2
  go_wp2_with fail
  refine HM3.out.mono ?_
  rintro e w4 ⟨rfl, hb⟩
  have hb34 := (lit1_below w3 1 5).trans (hb.mono (lit1_below w3 1 5).size)
  have HB4 := Lib.hid (HB3.out.trans (hb34.mono HB3.out.size))
  have HL4 := Lib.hid (HL3.out.below hb34)
  have hm4 : mayOf (rowOf [one 1 w4.heap.size 1]) = 131 := by kernel_rfl
  have M4 := may_any (c := 1) (lit1 w4 (small (x := 1) rfl) (small (x := 1) rfl)) (by simp) (fun v hv => by simp [one] at hv; subst hv; simp)
  rw [hm4] at M4
  have HM4 := Lib.hid M4
  clear hb hb34 hm4 M4 HM3
  go_wp2_with fail
  refine HM4.out.mono ?_
  rintro e w5 ⟨rfl, hb⟩
  have hb45 := (lit1_below w4 1 1).trans (hb.mono (lit1_below w4 1 1).size)
  have HB5 := Lib.hid (HB4.out.trans (hb45.mono HB4.out.size))
  have HL5 := Lib.hid (HL4.out.below hb45)
  have U5 := users_any (c := 3) HL5.out (by rw [hlen]; omega) HDL.out 3
  rw [HU.out] at U5
  have HU5 := Lib.hid U5
  clear hb hb45 U5 HM4
  go_wp2_with fail
  refine HU5.out.mono ?_
  rintro e w6 ⟨v, rfl, hrow, hb56⟩
  obtain ⟨vb, vd, rfl⟩ := hrow.shape
  have HB6 := Lib.hid (HB5.out.trans (hb56.mono HB5.out.size))
  have HL6 := Lib.hid (HL5.out.below hb56)
  have hrd := (hrow.read (fun x hx => by simp at hx; subst hx; exact small rfl)).1
  have HS := Lib.hid (refSame_any (c := vd) (d := 1) (hrd.below ((Below.refl _ w6).alloc (Nat.le_refl _) (.cells ([2].map encU).toArray 23))) (nums_lit w6 [2] (fun x hx => by simp at hx; subst hx; exact small rfl)) (by simp))
  clear hrow hb56 hrd HU5
  go_wp2_with fail
  refine HS.out.mono ?_
  rintro e w7 ⟨rfl, hdr⟩
  have hb67 : Below w6.heap.size w6 w7 := ((Below.refl _ w6).alloc (Nat.le_refl _) _).trans (hdr.bel.mono (by simp))
  have HB7 := Lib.hid (HB6.out.trans (hb67.mono HB6.out.size))
  have HL7 := Lib.hid (HL6.out.below hb67)
  have HR := Lib.hid (reach_any (c := 3) HL7.out (by rw [hlen]; omega) HDL.out 2 1)
  clear hdr hb67 HS
  go_wp2_with fail
  refine HR.out.mono ?_
  rintro e w8 ⟨b, rfl, hbb, hb78⟩
  obtain rfl : b = true := hbb.2 ⟨by rw [hlen]; omega, path21 w⟩
  have HB8 := Lib.hid (HB7.out.trans (hb78.mono HB7.out.size))
  clear hbb hb78 HR
  go_wp2_with fail
  go_ret
  exact ⟨rfl, HB8.out⟩

end Go.Proofs.Ythbaldjdfehhlaa
