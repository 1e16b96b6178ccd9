/- The law GraphRows: its walk. -/
import Derived.Test.YthbaldjdfehhlaaGreat13
namespace Go.Proofs.Ythbaldjdfehhlaa
open Go.RowKit Gr Go.Sort

set_option maxRecDepth 100000 in
set_option maxHeartbeats 4000000 in
theorem rows_in {w : World} {a : Option Addr} {l : List NodeV} {c : Nat} (hN : NodesF w a l) (hlc : l.length ≤ c) (hcm : c ≤ 9223372036854775807) (x y : Int) (hx : U64 x) :
    Calls Try.prog 3 #[.slice a l.length c, .int .u64 x, .int .u64 y] w fun e w' => e = .returned (.bool true) ∧ Below w.heap.size w w' := by
  have HN := Lib.hid hN
  have HK := Lib.hid (known_any w)
  clear hN
  go_enter Try.func3, Try.ntmps3
  go_wp2_with fail
  refine HK.out.mono ?_
  rintro e w1 ⟨rfl, hb1⟩
  have HN1 := Lib.hid (HN.out.below hb1)
  have HB1 := Lib.hid hb1
  have HG := Lib.hid (great_any (c := c) HN1.out (by omega))
  obtain ⟨r, hr⟩ : ∃ r, greatOf l = r := ⟨_, rfl⟩
  rw [hr] at HG
  have HR := Lib.hid hr
  clear HK hb1 hr
  cases r with
  | true =>
    go_wp2_with fail
    refine HG.out.mono ?_
    rintro e w2 ⟨rfl, rfl⟩
    go_wp2_with fail
    go_ret
    exact ⟨rfl, HB1.out⟩
  | false =>
    obtain ⟨hl, hdl⟩ := great_no HR.out
    have HD := Lib.hid hdl
    have HD2 := Lib.hid (fun v hv => Nat.le_trans (hdl v hv) (by omega) : ∀ v ∈ l, v.deps.length ≤ 100000)
    obtain ⟨m, hm⟩ : ∃ m, mayOf (rowOf l) = m := ⟨_, rfl⟩
    obtain ⟨o, ho⟩ : ∃ o, ordOf (rowOf l) = o := ⟨_, rfl⟩
    obtain ⟨us, hus⟩ : ∃ us, useOf (rowOf l) x = us := ⟨_, rfl⟩
    have HFO := Lib.hid (ho ▸ ordOf_fit (fun v hv => (HN1.out.each v hv).id) : ∀ z ∈ o, U64 z)
    have HFU := Lib.hid (hus ▸ useOf_fit (fun v hv => (HN1.out.each v hv).id) x : ∀ z ∈ us, U64 z)
    have holen : o.length ≤ 1000000 := by
      rw [← ho]
      unfold ordOf
      split
      · have := (order_gone (rowOf l)).len
        rw [rowOf_len] at this
        omega
      · simp
    have hulen : us.length ≤ 1000000 := by
      rw [← hus]
      unfold useOf
      split
      · have hsub := nodup_le (l := ids (rowOf l)) ((users_is (rowOf l) x).rise.imp fun h => by omega) fun z hz => (((users_is (rowOf l) x).mem z).1 hz).head
        rw [rowOf_ids, List.length_map] at hsub
        omega
      · simp
    have hcm2 : c ≤ maxLen := by unfold maxLen; omega
    have HM := Lib.hid hm
    have HO := Lib.hid ho
    have HU := Lib.hid hus
    clear hdl hm ho hus
    go_wp2_with fail
    refine HG.out.mono ?_
    rintro e w2 ⟨rfl, rfl⟩
    have C := Lib.hid (order_any (c := c) HN1.out (by omega) HD2.out)
    clear HG
    go_wp2_with fail
    refine C.out.mono ?_
    rintro e w3 ⟨v, rfl, hrow, hb⟩
    rw [HO.out] at hrow
    rw [HM.out]
    obtain ⟨va, vc, rfl⟩ := hrow.shape
    have HN3 := Lib.hid (HN1.out.below hb)
    have HC3 := Lib.hid (HB1.out.trans (hb.mono HB1.out.size))
    have HV := Lib.hid (hrow.read HFO.out).1
    clear C hrow hb
    have C := Lib.hid (refOrder_any HN3.out hl HD.out hlc hcm2)
    go_wp2_with fail
    refine C.out.mono ?_
    rintro e w4 ⟨v, rfl, hrow, hb⟩
    rw [HO.out] at hrow
    rw [HM.out]
    obtain ⟨vb, vd, rfl⟩ := hrow.shape
    have HN4 := Lib.hid (HN3.out.below hb)
    have HC4 := Lib.hid (HC3.out.trans (hb.mono HC3.out.size))
    have HV4 := Lib.hid (HV.out.below hb)
    have HW4 := Lib.hid (hrow.read HFO.out).1
    clear C hrow hb
    have C := Lib.hid (may_any (c := c) HN4.out (by omega) HD2.out)
    rw [HM.out] at C
    go_wp2_with fail
    refine C.out.mono ?_
    rintro e w5 ⟨rfl, hb⟩
    have HN5 := Lib.hid (HN4.out.below hb)
    have HC5 := Lib.hid (HC4.out.trans (hb.mono HC4.out.size))
    have HV5 := Lib.hid (HV4.out.below hb)
    have HW5 := Lib.hid (HW4.out.below hb)
    clear C hb
    have C := Lib.hid (refMay_any HN5.out hl HD.out hlc hcm2)
    rw [HM.out] at C
    go_wp2_with fail
    refine C.out.mono ?_
    rintro e w6 ⟨rfl, hb⟩
    have HN6 := Lib.hid (HN5.out.below hb)
    have HC6 := Lib.hid (HC5.out.trans (hb.mono HC5.out.size))
    have HV6 := Lib.hid (HV5.out.below hb)
    have HW6 := Lib.hid (HW5.out.below hb)
    clear C hb
    have C := Lib.hid (refSame_any (c := vc) (d := vd) HV6.out HW6.out holen)
    have hdec : decide (o = o) = true := by simp
    rw [hdec] at C
    clear hdec
    go_wp2_with fail
    refine C.out.mono ?_
    rintro e w7 ⟨rfl, hdr⟩
    have HN7 := Lib.hid (HN6.out.below hdr.bel)
    have HC7 := Lib.hid (HC6.out.trans (hdr.bel.mono HC6.out.size))
    clear C hdr
    have C := Lib.hid (users_any (c := c) HN7.out (by omega) HD2.out x)
    rw [HU.out] at C
    go_wp2_with fail
    refine C.out.mono ?_
    rintro e w8 ⟨v, rfl, hrow, hb⟩
    obtain ⟨vu, vuc, rfl⟩ := hrow.shape
    have HN8 := Lib.hid (HN7.out.below hb)
    have HC8 := Lib.hid (HC7.out.trans (hb.mono HC7.out.size))
    have HV8 := Lib.hid (hrow.read HFU.out).1
    clear C hrow hb
    have C := Lib.hid (refUsers_any (c := c) HN8.out hl HD.out x)
    rw [HU.out] at C
    go_wp2_with fail
    refine C.out.mono ?_
    rintro e w9 ⟨v, rfl, hrow, hb⟩
    obtain ⟨vw, vwc, rfl⟩ := hrow.shape
    have HN9 := Lib.hid (HN8.out.below hb)
    have HC9 := Lib.hid (HC8.out.trans (hb.mono HC8.out.size))
    have HV9 := Lib.hid (HV8.out.below hb)
    have HW9 := Lib.hid (hrow.read HFU.out).1
    clear C hrow hb
    have C := Lib.hid (refSame_any (c := vuc) (d := vwc) HV9.out HW9.out hulen)
    have hdec : decide (us = us) = true := by simp
    rw [hdec] at C
    clear hdec
    go_wp2_with fail
    refine C.out.mono ?_
    rintro e w10 ⟨rfl, hdr⟩
    have HN10 := Lib.hid (HN9.out.below hdr.bel)
    have HC10 := Lib.hid (HC9.out.trans (hdr.bel.mono HC9.out.size))
    clear C hdr
    have C := Lib.hid (reach_any (c := c) HN10.out (by omega) HD2.out x y)
    go_wp2_with fail
    refine C.out.mono ?_
    rintro e w11 ⟨b1, rfl, hb1, hb⟩
    have HN11 := Lib.hid (HN10.out.below hb)
    have HC11 := Lib.hid (HC10.out.trans (hb.mono HC10.out.size))
    have HBB := Lib.hid hb1
    clear C hb hb1
    have C := Lib.hid (refReach_any (c := c) HN11.out hl HD.out x y hx)
    go_wp2_with fail
    refine C.out.mono ?_
    rintro e w12 ⟨b2, rfl, hb2, hb⟩
    obtain rfl : b1 = b2 := Bool.eq_iff_iff.2 (HBB.out.trans hb2.symm)
    have HC12 := Lib.hid (HC11.out.trans (hb.mono HC11.out.size))
    clear C hb2 hb HBB
    go_wp2_with fail
    go_ret
    exact ⟨by simp, HC12.out⟩

end Go.Proofs.Ythbaldjdfehhlaa
