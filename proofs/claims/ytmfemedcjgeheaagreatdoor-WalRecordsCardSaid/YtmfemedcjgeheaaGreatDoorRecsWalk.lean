/- The law on records: its walk. -/
import Derived.Test.YtmfemedcjgeheaaGreatDoorRecA
import Derived.Test.YtmfemedcjgeheaaGreatDoorWhC
import Derived.Test.YtmfemedcjgeheaaGreatDoorNoA
import Derived.Deep.RegionHeld3
namespace Go.Proofs.YtmfemedcjgeheaaGreatDoor
open Go.RowKit Go.Maps Go.Sort Dsk Wl

theorem outR_snd (e : Ent) : (outR e).2 = 0 ∨ (outR e).2 = 2 ∨ (outR e).2 = 3 := by
  unfold outR
  split
  · exact .inr (.inl rfl)
  · split
    · exact .inr (.inr rfl)
    · exact .inl rfl

set_option maxRecDepth 100000 in
set_option maxHeartbeats 20000000 in
theorem recs_any (x : Ent) (a ba : Option Addr) (c bc : Nat) (bs : List Int) (w : World) {B0 : Nat} (hT : Tabs B0 w) (hB0 : B0 ≤ w.heap.size) (h1 : x.ix < 18446744073709551616) (h2 : x.term < 18446744073709551616) (hx : Reads w a x.body) (hb : Reads w ba bs) (hbc : bs.length ≤ bc) (hbm : bc ≤ 9223372036854775807) :
    Calls Tryz.prog 4 #[.agg #[.int .u64 (x.ix : Int), .int .u64 (x.term : Int), .slice a x.body.length c], .slice ba bs.length bc] w fun r w' => r = .returned (.bool true) ∧ Below w.heap.size w w' := by
  have hal : Below w.heap.size w (w.alloc (.cells #[.int .u64 (x.ix : Int), .int .u64 (x.term : Int), .slice a x.body.length c] 55)) := (Below.refl _ _).alloc (Nat.le_refl _) _
  have hbx := heap_alloc_new w (.cells #[.int .u64 (x.ix : Int), .int .u64 (x.term : Int), .slice a x.body.length c] 55)
  have HKN := Lib.hid (known10_any _ (hT.below (hal.mono hB0)) (Nat.le_trans hB0 hal.size))
  have HT := Lib.hid (hT.up hB0)
  have HX := Lib.hid hx
  have HB := Lib.hid hb
  have H1 := Lib.hid h1
  have H2 := Lib.hid h2
  have HBC := Lib.hid hbc
  have HBM := Lib.hid hbm
  have HAL := Lib.hid hal
  have HBX := Lib.hid hbx
  clear hT hB0 hx hb hal hbx hbc hbm
  go_enter Tryz.func4, Tryz.ntmps4
  go_wp2_with fail
  refine HKN.out.mono ?_
  rintro r w1 ⟨rfl, hb1⟩
  have HX1 := Lib.hid ((hb1.block w.heap.size (by simp)).trans HBX.out)
  have HB1 := Lib.hid (HAL.out.trans (hb1.mono HAL.out.size))
  clear hb1 HAL HBX HKN
  have e2 : w1.cell? ⟨w.heap.size, 2, none⟩ = some (.slice a x.body.length c) := by rw [cell_of_row _ _ 2 _ _ _ HX1.out]; rfl
  by_cases hn1 : 300 < x.body.length
  · have d1 : decide ((300 : Int) < (x.body.length : Int)) = true := by simp; omega
    by_cases hn2 : x.body.length < 1990
    · have d2 : decide ((x.body.length : Int) < (1990 : Int)) = true := by simp; omega
      go_wp2_with fail
      go_ret
      exact ⟨rfl, HB1.out⟩
    · have d2 : decide ((x.body.length : Int) < (1990 : Int)) = false := by simp; omega
      by_cases hn3 : 3000 < x.body.length
      · have d3 : decide ((3000 : Int) < (x.body.length : Int)) = true := by simp; omega
        go_wp2_with fail
        go_ret
        exact ⟨rfl, HB1.out⟩
      · have d3 : decide ((3000 : Int) < (x.body.length : Int)) = false := by simp; omega
        by_cases hm : 300 < bs.length
        · have d4 : decide ((300 : Int) < (bs.length : Int)) = true := by simp; omega
          go_wp2_with fail
          go_ret
          exact ⟨rfl, HB1.out⟩
        · have d4 : decide ((300 : Int) < (bs.length : Int)) = false := by simp; omega
          have HM := Lib.hid (show bs.length ≤ 300 by omega)
          clear hn1 hm
          have e0 : w1.cell? ⟨w.heap.size, 0, none⟩ = some (.int .u64 (x.ix : Int)) := by rw [cell_of_row _ _ 0 _ _ _ HX1.out]; rfl
          have e1 : w1.cell? ⟨w.heap.size, 1, none⟩ = some (.int .u64 (x.term : Int)) := by rw [cell_of_row _ _ 1 _ _ _ HX1.out]; rfl
          go_wp2_with fail
          refine (rec_told x a c w1 H1.out H2.out (HX.out.below HB1.out)).mono ?_
          rintro r w2 ⟨a2, c2, rfl, hr2, hc2, hc2m, hb9⟩
          have HX2 := Lib.hid ((hb9.block w.heap.size (lt_of_block HX1.out)).trans HX1.out)
          have HB2 := Lib.hid (HB1.out.trans (hb9.mono HB1.out.size))
          have HB9 := Lib.hid hb9
          clear e0 e1 e2 hb9
          have hL := outR_len H1.out H2.out HX.out.hr
          have hOK := outR_ok H1.out H2.out HX.out.hr
          have HF := Lib.hid (outR_snd x)
          obtain ⟨R, hR⟩ : ∃ R, R = outR x := ⟨_, rfl⟩
          have HRX := Lib.hid (show ∀ w' r, ToldR x w2 w' r → ∃ a' c', r = .returned (.tuple #[.slice a' R.1.length c', .int .i64 R.2]) ∧ Reads w' a' R.1 ∧ R.1.length ≤ c' ∧ c' ≤ 9223372036854775807 ∧ Below w2.heap.size w2 w' by rw [hR]; exact fun _ _ h => h)
          rw [← hR] at hr2 hc2 hL hOK HF ⊢
          clear hR
          obtain ⟨xs, f⟩ := R
          dsimp only at hr2 hc2 hL hOK HRX HF ⊢
          have HR2 := Lib.hid hr2
          have HC2 := Lib.hid hc2
          have HC2M := Lib.hid hc2m
          have HL := Lib.hid hL
          have HOK := Lib.hid hOK
          clear hr2 hc2 hc2m hL hOK
          have e0 : w2.cell? ⟨w.heap.size, 0, none⟩ = some (.int .u64 (x.ix : Int)) := by rw [cell_of_row _ _ 0 _ _ _ HX2.out]; rfl
          have e1 : w2.cell? ⟨w.heap.size, 1, none⟩ = some (.int .u64 (x.term : Int)) := by rw [cell_of_row _ _ 1 _ _ _ HX2.out]; rfl
          have e2 : w2.cell? ⟨w.heap.size, 2, none⟩ = some (.slice a x.body.length c) := by rw [cell_of_row _ _ 2 _ _ _ HX2.out]; rfl
          go_wp2_with fail
          refine (refRec_told x a c w2 H1.out H2.out (HX.out.below HB2.out)).mono ?_
          intro r w3 ht
          obtain ⟨a3, c3, rfl, hr3, -, -, hb9⟩ := HRX.out _ _ ht
          have HX3 := Lib.hid ((hb9.block w.heap.size (lt_of_block HX2.out)).trans HX2.out)
          have HB3 := Lib.hid (HB2.out.trans (hb9.mono HB2.out.size))
          have HR3 := Lib.hid hr3
          have HR23 := Lib.hid (HR2.out.below hb9)
          clear ht hr3 e0 e1 e2 hb9 HRX HR2 HB9
          go_wp2_with fail
          refine (parse_any ba bs.length bc bs w3 rfl (HB.out.below HB3.out) (by have := HM.out; omega) HBC.out HBM.out).mono ?_
          intro r w4 ht
          obtain ⟨az, cz, rfl, hz, hb9⟩ := told_of ht
          have HX4 := Lib.hid ((hb9.block w.heap.size (lt_of_block HX3.out)).trans HX3.out)
          have HB4 := Lib.hid (HB3.out.trans (hb9.mono HB3.out.size))
          have HR34 := Lib.hid (HR3.out.below hb9)
          have HR24 := Lib.hid (HR23.out.below hb9)
          clear ht hb9 HR3 HR23
          obtain ⟨P, hP⟩ : ∃ P, P = outP bs := ⟨_, rfl⟩
          have HPX := Lib.hid (show ∀ W w' r, ToldP bs W w' r → ∃ a c, r = .returned (.tuple #[.agg #[.int .u64 (P.1.ix : Int), .int .u64 (P.1.term : Int), .slice a P.1.body.length c], .int .i64 P.2]) ∧ Reads w' a P.1.body ∧ Below W.heap.size W w' by rw [hP]; exact fun _ _ _ h => h)
          rw [← hP] at hz ⊢
          clear hP
          obtain ⟨z, h⟩ := P
          dsimp only at hz HPX ⊢
          have HZ := Lib.hid hz
          clear hz
          have hs1 : Below w4.heap.size w4 (w4.alloc (.cells #[.int .u64 (z.ix : Int), .int .u64 (z.term : Int), .slice az z.body.length cz] 55)) := (Below.refl _ _).alloc (Nat.le_refl _) _
          have hzb := heap_alloc_new w4 (.cells #[.int .u64 (z.ix : Int), .int .u64 (z.term : Int), .slice az z.body.length cz] 55)
          go_wp2_with fail
          generalize w4.alloc (.cells #[.int .u64 (z.ix : Int), .int .u64 (z.term : Int), .slice az z.body.length cz] 55) = w5 at *
          have HZB := Lib.hid hzb
          have HS1 := Lib.hid hs1
          have HB5 := Lib.hid (HB4.out.trans (hs1.mono HB4.out.size))
          clear hzb hs1
          refine (refParse_any ba bs.length bc bs w5 rfl (HB.out.below HB5.out) (by have := HM.out; omega) HBC.out HBM.out).mono ?_
          intro r w6 ht
          obtain ⟨au, cu, rfl, hu, hs2⟩ := HPX.out _ _ _ (told_of ht)
          have HU := Lib.hid hu
          have HS2 := Lib.hid hs2
          have HB6 := Lib.hid (HB5.out.trans (hs2.mono HB5.out.size))
          clear ht hu hs2 HPX
          have hs3 : Below w6.heap.size w6 (w6.alloc (.cells #[.int .u64 (z.ix : Int), .int .u64 (z.term : Int), .slice au z.body.length cu] 55)) := (Below.refl _ _).alloc (Nat.le_refl _) _
          have hub := heap_alloc_new w6 (.cells #[.int .u64 (z.ix : Int), .int .u64 (z.term : Int), .slice au z.body.length cu] 55)
          go_wp2_with fail
          generalize w6.alloc (.cells #[.int .u64 (z.ix : Int), .int .u64 (z.term : Int), .slice au z.body.length cu] 55) = w7 at *
          have HUB := Lib.hid hub
          have HS3 := Lib.hid hs3
          have HB7 := Lib.hid (HB6.out.trans (hs3.mono HB6.out.size))
          have H47 := Lib.hid (show Below w4.heap.size w4 w7 from (HS1.out.trans (HS2.out.mono HS1.out.size)).trans (hs3.mono (Nat.le_trans HS1.out.size HS2.out.size)))
          clear hub hs3
          refine (parse_any a2 xs.length c2 xs w7 rfl (HR24.out.below H47.out) (by have := HL.out; omega) HC2.out HC2M.out).mono ?_
          intro r w8 ht
          obtain ⟨av, cv, rfl, hv, hs4⟩ := told_of ht
          obtain ⟨P2, hP2⟩ : ∃ P2, P2 = outP xs := ⟨_, rfl⟩
          have hok := HOK.out
          rw [← hP2] at hv hok ⊢
          clear hP2 ht
          obtain ⟨v, j⟩ := P2
          dsimp only at hv hok ⊢
          have HV := Lib.hid hv
          have HS4 := Lib.hid hs4
          have HOK2 := Lib.hid hok
          have HB8 := Lib.hid (HB7.out.trans (hs4.mono HB7.out.size))
          clear hv hs4 hok HOK
          have hs5 : Below w8.heap.size w8 (w8.alloc (.cells #[.int .u64 (v.ix : Int), .int .u64 (v.term : Int), .slice av v.body.length cv] 55)) := (Below.refl _ _).alloc (Nat.le_refl _) _
          have hvb := heap_alloc_new w8 (.cells #[.int .u64 (v.ix : Int), .int .u64 (v.term : Int), .slice av v.body.length cv] 55)
          have hs6 : ∀ W : World, Below W.heap.size W (W.alloc (.cells #[.pointer none] 61)) := fun W => (Below.refl _ _).alloc (Nat.le_refl _) _
          have hwb : ∀ W : World, W.heap.size = w8.heap.size + 1 → (W.alloc (.cells #[.pointer none] 61)).cell? ⟨w8.heap.size + 1, 0, none⟩ = some (.pointer none) := fun W hW => by rw [← hW, cell_of_row _ _ 0 _ _ _ (heap_alloc_new W _)]; rfl
          have hwb := hwb (w8.alloc (.cells #[.int .u64 (v.ix : Int), .int .u64 (v.term : Int), .slice av v.body.length cv] 55)) (by simp)
          go_wp2_with fail
          generalize w8.alloc (.cells #[.int .u64 (v.ix : Int), .int .u64 (v.term : Int), .slice av v.body.length cv] 55) = w9 at *
          have hs6 := hs6 w9
          generalize w9.alloc (.cells #[.pointer none] 61) = wA at *
          have HVB := Lib.hid hvb
          have HS5 := Lib.hid hs5
          have HS6 := Lib.hid hs6
          have HWB := Lib.hid hwb
          have HB9 := Lib.hid (HB8.out.trans (hs5.mono HB8.out.size))
          have HBA := Lib.hid (HB9.out.trans (hs6.mono HB9.out.size))
          clear hvb hs5 hs6 hwb
          refine (open_nil wA).mono ?_
          rintro r wB ⟨rfl, rfl⟩
          go_wp2_with fail
          refine (append_nil _ wA).mono ?_
          rintro r wB ⟨rfl, rfl⟩
          go_wp2_with fail
          refine (sync_zero (w8.heap.size + 1) wA HWB.out).mono ?_
          rintro r wB ⟨rfl, rfl⟩
          go_wp2_with fail
          refine (compact_nil _ wA).mono ?_
          rintro r wB ⟨rfl, rfl⟩
          go_wp2_with fail
          refine (entries_zero w.heap.size (w8.heap.size + 1) wA (HT.out.below HBA.out) HBA.out.size HWB.out).mono ?_
          rintro r wB ⟨⟨aq, cq, rfl⟩, hs7⟩
          have HBB := Lib.hid (HBA.out.trans (hs7.mono HBA.out.size))
          have T6 := HS6.out.trans (hs7.mono HS6.out.size)
          have T5 := HS5.out.trans (T6.mono HS5.out.size)
          have T4 := HS4.out.trans (T5.mono HS4.out.size)
          have T3 := HS3.out.trans (T4.mono HS3.out.size)
          have T2 := HS2.out.trans (T3.mono HS2.out.size)
          have T1 := HS1.out.trans (T2.mono HS1.out.size)
          have hxw := (T1.block w.heap.size (lt_of_block HX4.out)).trans HX4.out
          have hzw := (T2.block _ (lt_of_block HZB.out)).trans HZB.out
          have huw := (T4.block _ (lt_of_block HUB.out)).trans HUB.out
          have hvw := (T6.block _ (lt_of_block HVB.out)).trans HVB.out
          have HTX := Lib.hid (HX.out.below (HB4.out.trans (T1.mono HB4.out.size)))
          have HTZ := Lib.hid (HZ.out.below T1)
          have HTU := Lib.hid (HU.out.below T3)
          have HTV := Lib.hid (HV.out.below T5)
          have hcv2 := fun (W : World) (hW : Below wB.heap.size wB W) => ((HR24.out.below T1).below hW).text xs.length c2 rfl
          have hcv3 := fun (W : World) (hW : Below wB.heap.size wB W) => ((HR34.out.below T1).below hW).text xs.length c3 rfl
          have HSE := Lib.hid (sameE_iff (x := z) (y := z) |>.2 rfl)
          have HSX := Lib.hid (sameE_iff (x := x) (y := x) |>.2 rfl)
          have e0 : wB.cell? ⟨w.heap.size, 0, none⟩ = some (.int .u64 (x.ix : Int)) := by rw [cell_of_row _ _ 0 _ _ _ hxw]; rfl
          have e1 : wB.cell? ⟨w.heap.size, 1, none⟩ = some (.int .u64 (x.term : Int)) := by rw [cell_of_row _ _ 1 _ _ _ hxw]; rfl
          have e2 : wB.cell? ⟨w.heap.size, 2, none⟩ = some (.slice a x.body.length c) := by rw [cell_of_row _ _ 2 _ _ _ hxw]; rfl
          have z0 : wB.cell? ⟨w4.heap.size, 0, none⟩ = some (.int .u64 (z.ix : Int)) := by rw [cell_of_row _ _ 0 _ _ _ hzw]; rfl
          have z1 : wB.cell? ⟨w4.heap.size, 1, none⟩ = some (.int .u64 (z.term : Int)) := by rw [cell_of_row _ _ 1 _ _ _ hzw]; rfl
          have z2 : wB.cell? ⟨w4.heap.size, 2, none⟩ = some (.slice az z.body.length cz) := by rw [cell_of_row _ _ 2 _ _ _ hzw]; rfl
          have u0 : wB.cell? ⟨w6.heap.size, 0, none⟩ = some (.int .u64 (z.ix : Int)) := by rw [cell_of_row _ _ 0 _ _ _ huw]; rfl
          have u1 : wB.cell? ⟨w6.heap.size, 1, none⟩ = some (.int .u64 (z.term : Int)) := by rw [cell_of_row _ _ 1 _ _ _ huw]; rfl
          have u2 : wB.cell? ⟨w6.heap.size, 2, none⟩ = some (.slice au z.body.length cu) := by rw [cell_of_row _ _ 2 _ _ _ huw]; rfl
          have v0 : wB.cell? ⟨w8.heap.size, 0, none⟩ = some (.int .u64 (v.ix : Int)) := by rw [cell_of_row _ _ 0 _ _ _ hvw]; rfl
          have v1 : wB.cell? ⟨w8.heap.size, 1, none⟩ = some (.int .u64 (v.term : Int)) := by rw [cell_of_row _ _ 1 _ _ _ hvw]; rfl
          have v2 : wB.cell? ⟨w8.heap.size, 2, none⟩ = some (.slice av v.body.length cv) := by rw [cell_of_row _ _ 2 _ _ _ hvw]; rfl
          clear T6 T5 T4 T3 T2 T1 hxw hzw huw hvw hs7 HX4 HZB HUB HVB HX HZ HU HV HR24 HR34 HS1 HS2 HS3 HS4 HS5 HS6 HWB H47 HB1 HB2 HB3 HB4 HB5 HB6 HB7 HB8 HB9 HBA
          generalize strOfNums xs = SX at *
          rcases HF.out with hf0 | hf0 | hf0
          · subst hf0
            obtain ⟨rfl, rfl⟩ : v = x ∧ j = 0 := by
              have := HOK2.out rfl
              simpa using this
            have HC2R := Lib.hid hcv2
            have HC3R := Lib.hid hcv3
            clear hcv2 hcv3
            have c1 := fun (W : World) (hW : Below wB.heap.size wB W) => refSame_ent z z az au cz cu W (HTZ.out.below hW) (HTU.out.below hW)
            have c2' := fun (W : World) (hW : Below wB.heap.size wB W) => refSame_ent z v az a cz c W (HTZ.out.below hW) (HTX.out.below hW)
            have c3' := fun (W : World) (hW : Below wB.heap.size wB W) => same_ent z v az a cz c W (HTZ.out.below hW) (HTX.out.below hW)
            have c4' := fun (W : World) (hW : Below wB.heap.size wB W) => same_ent v v av a cv c W (HTV.out.below hW) (HTX.out.below hW)
            rw [HSE.out] at c1
            rw [HSX.out] at c4'
            generalize sameE z v = q at c2' c3'
            have C1 := Lib.hid c1
            have C2 := Lib.hid c2'
            have C3 := Lib.hid c3'
            have C4 := Lib.hid c4'
            clear c1 c2' c3' c4'
            go_wp2_with fail
            go_region_held3 (fun W => W.cell? ⟨w.heap.size, 0, none⟩ = some (.int .u64 (v.ix : Int)) ∧ W.cell? ⟨w.heap.size, 1, none⟩ = some (.int .u64 (v.term : Int)) ∧ W.cell? ⟨w.heap.size, 2, none⟩ = some (.slice a v.body.length c) ∧
                W.cell? ⟨w4.heap.size, 0, none⟩ = some (.int .u64 (z.ix : Int)) ∧ W.cell? ⟨w4.heap.size, 1, none⟩ = some (.int .u64 (z.term : Int)) ∧ W.cell? ⟨w4.heap.size, 2, none⟩ = some (.slice az z.body.length cz) ∧
                W.cell? ⟨w6.heap.size, 0, none⟩ = some (.int .u64 (z.ix : Int)) ∧ W.cell? ⟨w6.heap.size, 1, none⟩ = some (.int .u64 (z.term : Int)) ∧ W.cell? ⟨w6.heap.size, 2, none⟩ = some (.slice au z.body.length cu) ∧
                W.cell? ⟨w8.heap.size, 0, none⟩ = some (.int .u64 (v.ix : Int)) ∧ W.cell? ⟨w8.heap.size, 1, none⟩ = some (.int .u64 (v.term : Int)) ∧ W.cell? ⟨w8.heap.size, 2, none⟩ = some (.slice av v.body.length cv) ∧
                (convert 39 9 (.slice a2 xs.length c2)).run Tryz.prog W = .ok (.string SX) W ∧ (convert 39 9 (.slice a3 xs.length c3)).run Tryz.prog W = .ok (.string SX) W ∧ Below wB.heap.size wB W)
              (first
                | exact ⟨e0, e1, e2, z0, z1, z2, u0, u1, u2, v0, v1, v2, HC2R.out _ (Below.refl _ _).drew, HC3R.out _ (Below.refl _ _).drew, (Below.refl _ _).drew⟩
                | go_keep
                | (go_split_ands; exact ⟨stays hb9 (by assumption), stays hb9 (by assumption), stays hb9 (by assumption), stays hb9 (by assumption), stays hb9 (by assumption), stays hb9 (by assumption), stays hb9 (by assumption), stays hb9 (by assumption), stays hb9 (by assumption), stays hb9 (by assumption), stays hb9 (by assumption), stays hb9 (by assumption), HC2R.out _ (Below.trans (by assumption) (hb9.mono (Below.size (by assumption)))), HC3R.out _ (Below.trans (by assumption) (hb9.mono (Below.size (by assumption)))), Below.trans (by assumption) (hb9.mono (Below.size (by assumption)))⟩))
              (first
                | (go_at_call 31; (try go_split_ands); with_reducible refine (C1.out _ (by assumption)).mono ?_; rintro e w9 ⟨rfl, hb9⟩)
                | (go_at_call 31; (try go_split_ands); with_reducible refine (C2.out _ (by assumption)).mono ?_; rintro e w9 ⟨rfl, hb9⟩)
                | (go_at_call 32; (try go_split_ands); with_reducible refine (C3.out _ (by assumption)).mono ?_; rintro e w9 ⟨rfl, hb9⟩)
                | (go_at_call 32; (try go_split_ands); with_reducible refine (C4.out _ (by assumption)).mono ?_; rintro e w9 ⟨rfl, hb9⟩))
            rename_i hHeld
            have hBW : Below wB.heap.size wB _ := (hHeld.2.2.2.2.2.2.2.2.2.2.2.2.2.2)
            go_wp2_with fail
            go_ret
            exact ⟨rfl, HBB.out.trans (hBW.mono HBB.out.size)⟩
          · subst hf0
            have HC2R := Lib.hid hcv2
            have HC3R := Lib.hid hcv3
            clear hcv2 hcv3
            have c1 := fun (W : World) (hW : Below wB.heap.size wB W) => refSame_ent z z az au cz cu W (HTZ.out.below hW) (HTU.out.below hW)
            have c2' := fun (W : World) (hW : Below wB.heap.size wB W) => refSame_ent z x az a cz c W (HTZ.out.below hW) (HTX.out.below hW)
            have c3' := fun (W : World) (hW : Below wB.heap.size wB W) => same_ent z x az a cz c W (HTZ.out.below hW) (HTX.out.below hW)
            have c4' := fun (W : World) (hW : Below wB.heap.size wB W) => same_ent v x av a cv c W (HTV.out.below hW) (HTX.out.below hW)
            rw [HSE.out] at c1
            generalize sameE z x = q at c2' c3'
            have C1 := Lib.hid c1
            have C2 := Lib.hid c2'
            have C3 := Lib.hid c3'
            have _C4 := Lib.hid c4'
            clear c1 c2' c3' c4'
            go_wp2_with fail
            refine wp_region_held_drew (S := (fun W => W.cell? ⟨w.heap.size, 0, none⟩ = some (.int .u64 (x.ix : Int)) ∧ W.cell? ⟨w.heap.size, 1, none⟩ = some (.int .u64 (x.term : Int)) ∧ W.cell? ⟨w.heap.size, 2, none⟩ = some (.slice a x.body.length c) ∧ W.cell? ⟨w4.heap.size, 0, none⟩ = some (.int .u64 (z.ix : Int)) ∧ W.cell? ⟨w4.heap.size, 1, none⟩ = some (.int .u64 (z.term : Int)) ∧ W.cell? ⟨w4.heap.size, 2, none⟩ = some (.slice az z.body.length cz) ∧ W.cell? ⟨w6.heap.size, 0, none⟩ = some (.int .u64 (z.ix : Int)) ∧ W.cell? ⟨w6.heap.size, 1, none⟩ = some (.int .u64 (z.term : Int)) ∧ W.cell? ⟨w6.heap.size, 2, none⟩ = some (.slice au z.body.length cu) ∧ W.cell? ⟨w8.heap.size, 0, none⟩ = some (.int .u64 (v.ix : Int)) ∧ W.cell? ⟨w8.heap.size, 1, none⟩ = some (.int .u64 (v.term : Int)) ∧ W.cell? ⟨w8.heap.size, 2, none⟩ = some (.slice av v.body.length cv) ∧ (convert 39 9 (.slice a2 xs.length c2)).run Tryz.prog W = .ok (.string SX) W ∧ (convert 39 9 (.slice a3 xs.length c3)).run Tryz.prog W = .ok (.string SX) W ∧ Below wB.heap.size wB W)) (by kernel_rfl) ⟨e0, e1, e2, z0, z1, z2, u0, u1, u2, v0, v1, v2, HC2R.out _ (Below.refl _ _).drew, HC3R.out _ (Below.refl _ _).drew, (Below.refl _ _).drew⟩ (fun hHeld => ?_)
            refine wpAnyH_take (i := 0) (oi := ?_) (v := ?_) ?_ (by kernel_rfl) (by kernel_rfl) (by kernel_rfl) ?_ (Or.inl ⟨?_, ?_⟩) (by assumption) ?_
            rotate_left 2
            focus (simp only [List.getElem?_toArray, List.getElem?_cons_zero]; rfl)
            focus exact fun _ _ _ h => h
            focus rfl
            focus (intro W hS; (try dsimp only at hS); obtain ⟨x0, x1, x2, zz0, zz1, zz2, uu0, uu1, uu2, vv0, vv1, vv2, q2, q3, hbb⟩ := hS; go_simp; (try with_reducible rfl))
            try simp only [Act.put]
            try simp only [List.setIfInBounds_toArray]
            try simp only [List.set_cons_succ]
            try simp only [List.set_cons_zero]
            refine wpAnyH_take (i := 1) (oi := ?_) (v := ?_) ?_ (by kernel_rfl) (by kernel_rfl) (by kernel_rfl) ?_ (Or.inl ⟨?_, ?_⟩) (by assumption) ?_
            rotate_left 2
            focus (simp only [List.getElem?_toArray, List.getElem?_cons_succ, List.getElem?_cons_zero]; rfl)
            focus exact fun _ _ _ h => h
            focus rfl
            focus (intro W hS; (try dsimp only at hS); obtain ⟨x0, x1, x2, zz0, zz1, zz2, uu0, uu1, uu2, vv0, vv1, vv2, q2, q3, hbb⟩ := hS; go_simp; (try with_reducible rfl))
            try simp only [Act.put]
            try simp only [List.setIfInBounds_toArray]
            try simp only [List.set_cons_succ]
            try simp only [List.set_cons_zero]
            refine wpAnyH_take (i := 2) (oi := ?_) (v := ?_) ?_ (by kernel_rfl) (by kernel_rfl) (by kernel_rfl) ?_ (Or.inl ⟨?_, ?_⟩) (by assumption) ?_
            rotate_left 2
            focus (simp only [List.getElem?_toArray, List.getElem?_cons_succ, List.getElem?_cons_zero]; rfl)
            focus exact fun _ _ _ h => h
            focus rfl
            focus (intro W hS; (try dsimp only at hS); obtain ⟨x0, x1, x2, zz0, zz1, zz2, uu0, uu1, uu2, vv0, vv1, vv2, q2, q3, hbb⟩ := hS; go_simp; (try with_reducible rfl))
            try simp only [Act.put]
            try simp only [List.setIfInBounds_toArray]
            try simp only [List.set_cons_succ]
            try simp only [List.set_cons_zero]
            refine wpAnyH_take (i := 3) (oi := ?_) (v := ?_) ?_ (by kernel_rfl) (by kernel_rfl) (by kernel_rfl) ?_ (Or.inl ⟨?_, ?_⟩) (by assumption) ?_
            rotate_left 2
            focus (simp only [List.getElem?_toArray, List.getElem?_cons_succ, List.getElem?_cons_zero]; rfl)
            focus exact fun _ _ _ h => h
            focus rfl
            focus (intro W hS; (try dsimp only at hS); obtain ⟨x0, x1, x2, zz0, zz1, zz2, uu0, uu1, uu2, vv0, vv1, vv2, q2, q3, hbb⟩ := hS; go_simp; (try with_reducible rfl))
            try simp only [Act.put]
            try simp only [List.setIfInBounds_toArray]
            try simp only [List.set_cons_succ]
            try simp only [List.set_cons_zero]
            refine wpAnyH_take (i := 4) (oi := ?_) (v := ?_) ?_ (by kernel_rfl) (by kernel_rfl) (by kernel_rfl) ?_ (Or.inl ⟨?_, ?_⟩) (by assumption) ?_
            rotate_left 2
            focus (simp only [List.getElem?_toArray, List.getElem?_cons_succ, List.getElem?_cons_zero]; rfl)
            focus exact fun _ _ _ h => h
            focus rfl
            focus (intro W hS; (try dsimp only at hS); obtain ⟨x0, x1, x2, zz0, zz1, zz2, uu0, uu1, uu2, vv0, vv1, vv2, q2, q3, hbb⟩ := hS; go_simp; (try with_reducible rfl))
            try simp only [Act.put]
            try simp only [List.setIfInBounds_toArray]
            try simp only [List.set_cons_succ]
            try simp only [List.set_cons_zero]
            refine wpAnyH_take (i := 5) (oi := ?_) (v := ?_) ?_ (by kernel_rfl) (by kernel_rfl) (by kernel_rfl) ?_ (Or.inl ⟨?_, ?_⟩) (by assumption) ?_
            rotate_left 2
            focus (simp only [List.getElem?_toArray, List.getElem?_cons_succ, List.getElem?_cons_zero]; rfl)
            focus exact fun _ _ _ h => h
            focus rfl
            focus (intro W hS; (try dsimp only at hS); obtain ⟨x0, x1, x2, zz0, zz1, zz2, uu0, uu1, uu2, vv0, vv1, vv2, q2, q3, hbb⟩ := hS; go_simp; (try with_reducible rfl))
            try simp only [Act.put]
            try simp only [List.setIfInBounds_toArray]
            try simp only [List.set_cons_succ]
            try simp only [List.set_cons_zero]
            refine wpAnyH_take (i := 6) (oi := ?_) (v := ?_) ?_ (by kernel_rfl) (by kernel_rfl) (by kernel_rfl) ?_ (Or.inl ⟨?_, ?_⟩) (by assumption) ?_
            rotate_left 2
            focus (simp only [List.getElem?_toArray, List.getElem?_cons_succ, List.getElem?_cons_zero]; rfl)
            focus exact fun _ _ _ h => h
            focus rfl
            focus (intro W hS; (try dsimp only at hS); obtain ⟨x0, x1, x2, zz0, zz1, zz2, uu0, uu1, uu2, vv0, vv1, vv2, q2, q3, hbb⟩ := hS; go_simp; (try with_reducible rfl))
            try simp only [Act.put]
            try simp only [List.setIfInBounds_toArray]
            try simp only [List.set_cons_succ]
            try simp only [List.set_cons_zero]
            refine wpAnyH_take (i := 7) (oi := ?_) (v := ?_) ?_ (by kernel_rfl) (by kernel_rfl) (by kernel_rfl) ?_ (Or.inl ⟨?_, ?_⟩) (by assumption) ?_
            rotate_left 2
            focus (simp only [List.getElem?_toArray, List.getElem?_cons_succ, List.getElem?_cons_zero]; rfl)
            focus exact fun _ _ _ h => h
            focus rfl
            focus (intro W hS; (try dsimp only at hS); obtain ⟨x0, x1, x2, zz0, zz1, zz2, uu0, uu1, uu2, vv0, vv1, vv2, q2, q3, hbb⟩ := hS; go_simp; (try with_reducible rfl))
            try simp only [Act.put]
            try simp only [List.setIfInBounds_toArray]
            try simp only [List.set_cons_succ]
            try simp only [List.set_cons_zero]
            refine wpAnyH_take (i := 8) (oi := ?_) (v := ?_) ?_ (by kernel_rfl) (by kernel_rfl) (by kernel_rfl) ?_ (Or.inl ⟨?_, ?_⟩) (by assumption) ?_
            rotate_left 2
            focus (simp only [List.getElem?_toArray, List.getElem?_cons_succ, List.getElem?_cons_zero]; rfl)
            focus exact fun _ _ _ h => h
            focus rfl
            focus (intro W hS; (try dsimp only at hS); obtain ⟨x0, x1, x2, zz0, zz1, zz2, uu0, uu1, uu2, vv0, vv1, vv2, q2, q3, hbb⟩ := hS; go_simp; (try with_reducible rfl))
            try simp only [Act.put]
            try simp only [List.setIfInBounds_toArray]
            try simp only [List.set_cons_succ]
            try simp only [List.set_cons_zero]
            refine wpAnyH_take (i := 9) (oi := ?_) (v := ?_) ?_ (by kernel_rfl) (by kernel_rfl) (by kernel_rfl) ?_ (Or.inl ⟨?_, ?_⟩) (by assumption) ?_
            rotate_left 2
            focus (simp only [List.getElem?_toArray, List.getElem?_cons_succ, List.getElem?_cons_zero]; rfl)
            focus exact fun _ _ _ h => h
            focus rfl
            focus (intro W hS; (try dsimp only at hS); obtain ⟨x0, x1, x2, zz0, zz1, zz2, uu0, uu1, uu2, vv0, vv1, vv2, q2, q3, hbb⟩ := hS; go_simp; (try with_reducible rfl))
            try simp only [Act.put]
            try simp only [List.setIfInBounds_toArray]
            try simp only [List.set_cons_succ]
            try simp only [List.set_cons_zero]
            refine wpAnyH_take (i := 10) (oi := ?_) (v := ?_) ?_ (by kernel_rfl) (by kernel_rfl) (by kernel_rfl) ?_ (Or.inl ⟨?_, ?_⟩) (by assumption) ?_
            rotate_left 2
            focus (simp only [List.getElem?_toArray, List.getElem?_cons_succ, List.getElem?_cons_zero]; rfl)
            focus exact fun _ _ _ h => h
            focus rfl
            focus (intro W hS; (try dsimp only at hS); obtain ⟨x0, x1, x2, zz0, zz1, zz2, uu0, uu1, uu2, vv0, vv1, vv2, q2, q3, hbb⟩ := hS; go_simp; (try with_reducible rfl))
            try simp only [Act.put]
            try simp only [List.setIfInBounds_toArray]
            try simp only [List.set_cons_succ]
            try simp only [List.set_cons_zero]
            refine wpAnyH_take (i := 11) (oi := ?_) (v := ?_) ?_ (by kernel_rfl) (by kernel_rfl) (by kernel_rfl) ?_ (Or.inl ⟨?_, ?_⟩) (by assumption) ?_
            rotate_left 2
            focus (simp only [List.getElem?_toArray, List.getElem?_cons_succ, List.getElem?_cons_zero]; rfl)
            focus exact fun _ _ _ h => h
            focus rfl
            focus (intro W hS; (try dsimp only at hS); obtain ⟨x0, x1, x2, zz0, zz1, zz2, uu0, uu1, uu2, vv0, vv1, vv2, q2, q3, hbb⟩ := hS; go_simp; (try with_reducible rfl))
            try simp only [Act.put]
            try simp only [List.setIfInBounds_toArray]
            try simp only [List.set_cons_succ]
            try simp only [List.set_cons_zero]
            refine wpAnyH_take (i := 12) (oi := ?_) (v := ?_) ?_ (by kernel_rfl) (by kernel_rfl) (by kernel_rfl) ?_ (Or.inl ⟨?_, ?_⟩) (by assumption) ?_
            rotate_left 2
            focus (simp only [List.getElem?_toArray, List.getElem?_cons_succ, List.getElem?_cons_zero]; rfl)
            focus exact fun _ _ _ h => h
            focus rfl
            focus (intro W hS; (try dsimp only at hS); obtain ⟨x0, x1, x2, zz0, zz1, zz2, uu0, uu1, uu2, vv0, vv1, vv2, q2, q3, hbb⟩ := hS; go_simp; (try with_reducible rfl))
            try simp only [Act.put]
            try simp only [List.setIfInBounds_toArray]
            try simp only [List.set_cons_succ]
            try simp only [List.set_cons_zero]
            refine wpAnyH_ready (rs := [13]) (by kernel_rfl) (by simp) ?_
            refine AllReadyH.cons (o := ?_) ?_ (fun K hK => ?_) AllReadyH.nil
            rotate_left
            focus (simp only [List.getElem?_toArray, List.getElem?_cons_succ, List.getElem?_cons_zero]; rfl)
            rw [if_pos (by rfl)]
            go_simp
            refine (C1.out _ hHeld.2.2.2.2.2.2.2.2.2.2.2.2.2.2).mono ?_
            rintro e w9 ⟨rfl, hb9⟩
            go_wp2_with fail
            refine hK.out _ _ ⟨stays hb9 hHeld.1, stays hb9 hHeld.2.1, stays hb9 hHeld.2.2.1, stays hb9 hHeld.2.2.2.1, stays hb9 hHeld.2.2.2.2.1, stays hb9 hHeld.2.2.2.2.2.1, stays hb9 hHeld.2.2.2.2.2.2.1, stays hb9 hHeld.2.2.2.2.2.2.2.1, stays hb9 hHeld.2.2.2.2.2.2.2.2.1, stays hb9 hHeld.2.2.2.2.2.2.2.2.2.1, stays hb9 hHeld.2.2.2.2.2.2.2.2.2.2.1, stays hb9 hHeld.2.2.2.2.2.2.2.2.2.2.2.1, HC2R.out _ (Below.trans hHeld.2.2.2.2.2.2.2.2.2.2.2.2.2.2 (hb9.mono (Below.size hHeld.2.2.2.2.2.2.2.2.2.2.2.2.2.2))), HC3R.out _ (Below.trans hHeld.2.2.2.2.2.2.2.2.2.2.2.2.2.2 (hb9.mono (Below.size hHeld.2.2.2.2.2.2.2.2.2.2.2.2.2.2))), Below.trans hHeld.2.2.2.2.2.2.2.2.2.2.2.2.2.2 (hb9.mono (Below.size hHeld.2.2.2.2.2.2.2.2.2.2.2.2.2.2))⟩ (fun hHeld => ?_)
            clear hK K
            try simp only [Act.put]
            try simp only [List.setIfInBounds_toArray]
            try simp only [List.set_cons_succ]
            try simp only [List.set_cons_zero]
            refine wpAnyH_take (i := 14) (oi := ?_) (v := ?_) ?_ (by kernel_rfl) (by kernel_rfl) (by kernel_rfl) ?_ (Or.inl ⟨?_, ?_⟩) (by assumption) ?_
            rotate_left 2
            focus (simp only [List.getElem?_toArray, List.getElem?_cons_succ, List.getElem?_cons_zero]; rfl)
            focus exact fun _ _ _ h => h
            focus rfl
            focus (intro W hS; (try dsimp only at hS); obtain ⟨x0, x1, x2, zz0, zz1, zz2, uu0, uu1, uu2, vv0, vv1, vv2, q2, q3, hbb⟩ := hS; go_simp; (try with_reducible rfl))
            try simp only [Act.put]
            try simp only [List.setIfInBounds_toArray]
            try simp only [List.set_cons_succ]
            try simp only [List.set_cons_zero]
            refine wpAnyH_take (i := 15) (oi := ?_) (v := ?_) ?_ (by kernel_rfl) (by kernel_rfl) (by kernel_rfl) ?_ (Or.inl ⟨?_, ?_⟩) (by assumption) ?_
            rotate_left 2
            focus (simp only [List.getElem?_toArray, List.getElem?_cons_succ, List.getElem?_cons_zero]; rfl)
            focus exact fun _ _ _ h => h
            focus rfl
            focus (intro W hS; (try dsimp only at hS); obtain ⟨x0, x1, x2, zz0, zz1, zz2, uu0, uu1, uu2, vv0, vv1, vv2, q2, q3, hbb⟩ := hS; go_simp; (try with_reducible rfl))
            try simp only [Act.put]
            try simp only [List.setIfInBounds_toArray]
            try simp only [List.set_cons_succ]
            try simp only [List.set_cons_zero]
            refine wpAnyH_take (i := 16) (oi := ?_) (v := ?_) ?_ (by kernel_rfl) (by kernel_rfl) (by kernel_rfl) ?_ (Or.inl ⟨?_, ?_⟩) (by assumption) ?_
            rotate_left 2
            focus (simp only [List.getElem?_toArray, List.getElem?_cons_succ, List.getElem?_cons_zero]; rfl)
            focus exact fun _ _ _ h => h
            focus rfl
            focus (intro W hS; (try dsimp only at hS); obtain ⟨x0, x1, x2, zz0, zz1, zz2, uu0, uu1, uu2, vv0, vv1, vv2, q2, q3, hbb⟩ := hS; go_simp; (try with_reducible rfl))
            try simp only [Act.put]
            try simp only [List.setIfInBounds_toArray]
            try simp only [List.set_cons_succ]
            try simp only [List.set_cons_zero]
            refine wpAnyH_take (i := 17) (oi := ?_) (v := ?_) ?_ (by kernel_rfl) (by kernel_rfl) (by kernel_rfl) ?_ (Or.inl ⟨?_, ?_⟩) (by assumption) ?_
            rotate_left 2
            focus (simp only [List.getElem?_toArray, List.getElem?_cons_succ, List.getElem?_cons_zero]; rfl)
            focus exact fun _ _ _ h => h
            focus rfl
            focus (intro W hS; (try dsimp only at hS); obtain ⟨x0, x1, x2, zz0, zz1, zz2, uu0, uu1, uu2, vv0, vv1, vv2, q2, q3, hbb⟩ := hS; go_simp; (try with_reducible rfl))
            try simp only [Act.put]
            try simp only [List.setIfInBounds_toArray]
            try simp only [List.set_cons_succ]
            try simp only [List.set_cons_zero]
            refine wpAnyH_take (i := 18) (oi := ?_) (v := ?_) ?_ (by kernel_rfl) (by kernel_rfl) (by kernel_rfl) ?_ (Or.inl ⟨?_, ?_⟩) (by assumption) ?_
            rotate_left 2
            focus (simp only [List.getElem?_toArray, List.getElem?_cons_succ, List.getElem?_cons_zero]; rfl)
            focus exact fun _ _ _ h => h
            focus rfl
            focus (intro W hS; (try dsimp only at hS); obtain ⟨x0, x1, x2, zz0, zz1, zz2, uu0, uu1, uu2, vv0, vv1, vv2, q2, q3, hbb⟩ := hS; go_simp; (try with_reducible rfl))
            try simp only [Act.put]
            try simp only [List.setIfInBounds_toArray]
            try simp only [List.set_cons_succ]
            try simp only [List.set_cons_zero]
            refine wpAnyH_take (i := 19) (oi := ?_) (v := ?_) ?_ (by kernel_rfl) (by kernel_rfl) (by kernel_rfl) ?_ (Or.inl ⟨?_, ?_⟩) (by assumption) ?_
            rotate_left 2
            focus (simp only [List.getElem?_toArray, List.getElem?_cons_succ, List.getElem?_cons_zero]; rfl)
            focus exact fun _ _ _ h => h
            focus rfl
            focus (intro W hS; (try dsimp only at hS); obtain ⟨x0, x1, x2, zz0, zz1, zz2, uu0, uu1, uu2, vv0, vv1, vv2, q2, q3, hbb⟩ := hS; go_simp; (try with_reducible rfl))
            try simp only [Act.put]
            try simp only [List.setIfInBounds_toArray]
            try simp only [List.set_cons_succ]
            try simp only [List.set_cons_zero]
            refine wpAnyH_take (i := 20) (oi := ?_) (v := ?_) ?_ (by kernel_rfl) (by kernel_rfl) (by kernel_rfl) ?_ (Or.inl ⟨?_, ?_⟩) (by assumption) ?_
            rotate_left 2
            focus (simp only [List.getElem?_toArray, List.getElem?_cons_succ, List.getElem?_cons_zero]; rfl)
            focus exact fun _ _ _ h => h
            focus rfl
            focus (intro W hS; (try dsimp only at hS); obtain ⟨x0, x1, x2, zz0, zz1, zz2, uu0, uu1, uu2, vv0, vv1, vv2, q2, q3, hbb⟩ := hS; go_simp; (try with_reducible rfl))
            try simp only [Act.put]
            try simp only [List.setIfInBounds_toArray]
            try simp only [List.set_cons_succ]
            try simp only [List.set_cons_zero]
            refine wpAnyH_take (i := 21) (oi := ?_) (v := ?_) ?_ (by kernel_rfl) (by kernel_rfl) (by kernel_rfl) ?_ (Or.inl ⟨?_, ?_⟩) (by assumption) ?_
            rotate_left 2
            focus (simp only [List.getElem?_toArray, List.getElem?_cons_succ, List.getElem?_cons_zero]; rfl)
            focus exact fun _ _ _ h => h
            focus rfl
            focus (intro W hS; (try dsimp only at hS); obtain ⟨x0, x1, x2, zz0, zz1, zz2, uu0, uu1, uu2, vv0, vv1, vv2, q2, q3, hbb⟩ := hS; go_simp; (try with_reducible rfl))
            try simp only [Act.put]
            try simp only [List.setIfInBounds_toArray]
            try simp only [List.set_cons_succ]
            try simp only [List.set_cons_zero]
            refine wpAnyH_take (i := 22) (oi := ?_) (v := ?_) ?_ (by kernel_rfl) (by kernel_rfl) (by kernel_rfl) ?_ (Or.inl ⟨?_, ?_⟩) (by assumption) ?_
            rotate_left 2
            focus (simp only [List.getElem?_toArray, List.getElem?_cons_succ, List.getElem?_cons_zero]; rfl)
            focus exact fun _ _ _ h => h
            focus rfl
            focus (intro W hS; (try dsimp only at hS); obtain ⟨x0, x1, x2, zz0, zz1, zz2, uu0, uu1, uu2, vv0, vv1, vv2, q2, q3, hbb⟩ := hS; go_simp; (try with_reducible rfl))
            try simp only [Act.put]
            try simp only [List.setIfInBounds_toArray]
            try simp only [List.set_cons_succ]
            try simp only [List.set_cons_zero]
            refine wpAnyH_take (i := 23) (oi := ?_) (v := ?_) ?_ (by kernel_rfl) (by kernel_rfl) (by kernel_rfl) ?_ (Or.inl ⟨?_, ?_⟩) (by assumption) ?_
            rotate_left 2
            focus (simp only [List.getElem?_toArray, List.getElem?_cons_succ, List.getElem?_cons_zero]; rfl)
            focus exact fun _ _ _ h => h
            focus rfl
            focus (intro W hS; (try dsimp only at hS); obtain ⟨x0, x1, x2, zz0, zz1, zz2, uu0, uu1, uu2, vv0, vv1, vv2, q2, q3, hbb⟩ := hS; go_simp; (try with_reducible rfl))
            try simp only [Act.put]
            try simp only [List.setIfInBounds_toArray]
            try simp only [List.set_cons_succ]
            try simp only [List.set_cons_zero]
            refine wpAnyH_take (i := 24) (oi := ?_) (v := undef) ?_ (by kernel_rfl) (by kernel_rfl) (by kernel_rfl) ?_ (Or.inr ⟨?_, rfl⟩) (by assumption) ?_
            rotate_left
            focus (simp only [List.getElem?_toArray, List.getElem?_cons_succ, List.getElem?_cons_zero]; rfl)
            focus exact fun _ _ _ h => h
            focus rfl
            try simp only [Act.put]
            try simp only [List.setIfInBounds_toArray]
            try simp only [List.set_cons_succ]
            try simp only [List.set_cons_zero]
            refine wpAnyH_take (i := 25) (oi := ?_) (v := undef) ?_ (by kernel_rfl) (by kernel_rfl) (by kernel_rfl) ?_ (Or.inr ⟨?_, rfl⟩) (by assumption) ?_
            rotate_left
            focus (simp only [List.getElem?_toArray, List.getElem?_cons_succ, List.getElem?_cons_zero]; rfl)
            focus exact fun _ _ _ h => h
            focus rfl
            try simp only [Act.put]
            try simp only [List.setIfInBounds_toArray]
            try simp only [List.set_cons_succ]
            try simp only [List.set_cons_zero]
            refine wpAnyH_take (i := 26) (oi := ?_) (v := undef) ?_ (by kernel_rfl) (by kernel_rfl) (by kernel_rfl) ?_ (Or.inr ⟨?_, rfl⟩) (by assumption) ?_
            rotate_left
            focus (simp only [List.getElem?_toArray, List.getElem?_cons_succ, List.getElem?_cons_zero]; rfl)
            focus exact fun _ _ _ h => h
            focus rfl
            try simp only [Act.put]
            try simp only [List.setIfInBounds_toArray]
            try simp only [List.set_cons_succ]
            try simp only [List.set_cons_zero]
            refine wpAnyH_take (i := 27) (oi := ?_) (v := undef) ?_ (by kernel_rfl) (by kernel_rfl) (by kernel_rfl) ?_ (Or.inr ⟨?_, rfl⟩) (by assumption) ?_
            rotate_left
            focus (simp only [List.getElem?_toArray, List.getElem?_cons_succ, List.getElem?_cons_zero]; rfl)
            focus exact fun _ _ _ h => h
            focus rfl
            try simp only [Act.put]
            try simp only [List.setIfInBounds_toArray]
            try simp only [List.set_cons_succ]
            try simp only [List.set_cons_zero]
            refine wpAnyH_take (i := 28) (oi := ?_) (v := undef) ?_ (by kernel_rfl) (by kernel_rfl) (by kernel_rfl) ?_ (Or.inr ⟨?_, rfl⟩) (by assumption) ?_
            rotate_left
            focus (simp only [List.getElem?_toArray, List.getElem?_cons_succ, List.getElem?_cons_zero]; rfl)
            focus exact fun _ _ _ h => h
            focus rfl
            try simp only [Act.put]
            try simp only [List.setIfInBounds_toArray]
            try simp only [List.set_cons_succ]
            try simp only [List.set_cons_zero]
            refine wpAnyH_take (i := 29) (oi := ?_) (v := undef) ?_ (by kernel_rfl) (by kernel_rfl) (by kernel_rfl) ?_ (Or.inr ⟨?_, rfl⟩) (by assumption) ?_
            rotate_left
            focus (simp only [List.getElem?_toArray, List.getElem?_cons_succ, List.getElem?_cons_zero]; rfl)
            focus exact fun _ _ _ h => h
            focus rfl
            try simp only [Act.put]
            try simp only [List.setIfInBounds_toArray]
            try simp only [List.set_cons_succ]
            try simp only [List.set_cons_zero]
            refine wpAnyH_take (i := 30) (oi := ?_) (v := undef) ?_ (by kernel_rfl) (by kernel_rfl) (by kernel_rfl) ?_ (Or.inr ⟨?_, rfl⟩) (by assumption) ?_
            rotate_left
            focus (simp only [List.getElem?_toArray, List.getElem?_cons_succ, List.getElem?_cons_zero]; rfl)
            focus exact fun _ _ _ h => h
            focus rfl
            try simp only [Act.put]
            try simp only [List.setIfInBounds_toArray]
            try simp only [List.set_cons_succ]
            try simp only [List.set_cons_zero]
            refine wpAnyH_take (i := 31) (oi := ?_) (v := ?_) ?_ (by kernel_rfl) (by kernel_rfl) (by kernel_rfl) ?_ (Or.inl ⟨?_, ?_⟩) (by assumption) ?_
            rotate_left 2
            focus (simp only [List.getElem?_toArray, List.getElem?_cons_succ, List.getElem?_cons_zero]; rfl)
            focus exact fun _ _ _ h => h
            focus rfl
            focus (intro W hS; (try dsimp only at hS); obtain ⟨x0, x1, x2, zz0, zz1, zz2, uu0, uu1, uu2, vv0, vv1, vv2, q2, q3, hbb⟩ := hS; go_simp; (try with_reducible rfl))
            try simp only [Act.put]
            try simp only [List.setIfInBounds_toArray]
            try simp only [List.set_cons_succ]
            try simp only [List.set_cons_zero]
            refine wpAnyH_take (i := 32) (oi := ?_) (v := ?_) ?_ (by kernel_rfl) (by kernel_rfl) (by kernel_rfl) ?_ (Or.inl ⟨?_, ?_⟩) (by assumption) ?_
            rotate_left 2
            focus (simp only [List.getElem?_toArray, List.getElem?_cons_succ, List.getElem?_cons_zero]; rfl)
            focus exact fun _ _ _ h => h
            focus rfl
            focus (intro W hS; (try dsimp only at hS); obtain ⟨x0, x1, x2, zz0, zz1, zz2, uu0, uu1, uu2, vv0, vv1, vv2, q2, q3, hbb⟩ := hS; go_simp; (try with_reducible rfl))
            try simp only [Act.put]
            try simp only [List.setIfInBounds_toArray]
            try simp only [List.set_cons_succ]
            try simp only [List.set_cons_zero]
            refine wpAnyH_take (i := 33) (oi := ?_) (v := ?_) ?_ (by kernel_rfl) (by kernel_rfl) (by kernel_rfl) ?_ (Or.inl ⟨?_, ?_⟩) (by assumption) ?_
            rotate_left 2
            focus (simp only [List.getElem?_toArray, List.getElem?_cons_succ, List.getElem?_cons_zero]; rfl)
            focus exact fun _ _ _ h => h
            focus rfl
            focus (intro W hS; (try dsimp only at hS); obtain ⟨x0, x1, x2, zz0, zz1, zz2, uu0, uu1, uu2, vv0, vv1, vv2, q2, q3, hbb⟩ := hS; go_simp; (try with_reducible rfl))
            try simp only [Act.put]
            try simp only [List.setIfInBounds_toArray]
            try simp only [List.set_cons_succ]
            try simp only [List.set_cons_zero]
            refine wpAnyH_take (i := 34) (oi := ?_) (v := ?_) ?_ (by kernel_rfl) (by kernel_rfl) (by kernel_rfl) ?_ (Or.inl ⟨?_, ?_⟩) (by assumption) ?_
            rotate_left 2
            focus (simp only [List.getElem?_toArray, List.getElem?_cons_succ, List.getElem?_cons_zero]; rfl)
            focus exact fun _ _ _ h => h
            focus rfl
            focus (intro W hS; (try dsimp only at hS); obtain ⟨x0, x1, x2, zz0, zz1, zz2, uu0, uu1, uu2, vv0, vv1, vv2, q2, q3, hbb⟩ := hS; go_simp; (try with_reducible rfl))
            try simp only [Act.put]
            try simp only [List.setIfInBounds_toArray]
            try simp only [List.set_cons_succ]
            try simp only [List.set_cons_zero]
            refine wpAnyH_take (i := 35) (oi := ?_) (v := ?_) ?_ (by kernel_rfl) (by kernel_rfl) (by kernel_rfl) ?_ (Or.inl ⟨?_, ?_⟩) (by assumption) ?_
            rotate_left 2
            focus (simp only [List.getElem?_toArray, List.getElem?_cons_succ, List.getElem?_cons_zero]; rfl)
            focus exact fun _ _ _ h => h
            focus rfl
            focus (intro W hS; (try dsimp only at hS); obtain ⟨x0, x1, x2, zz0, zz1, zz2, uu0, uu1, uu2, vv0, vv1, vv2, q2, q3, hbb⟩ := hS; go_simp; (try with_reducible rfl))
            try simp only [Act.put]
            try simp only [List.setIfInBounds_toArray]
            try simp only [List.set_cons_succ]
            try simp only [List.set_cons_zero]
            refine wpAnyH_take (i := 37) (oi := ?_) (v := ?_) ?_ (by kernel_rfl) (by kernel_rfl) (by kernel_rfl) ?_ (Or.inl ⟨?_, ?_⟩) (by assumption) ?_
            rotate_left 2
            focus (simp only [List.getElem?_toArray, List.getElem?_cons_succ, List.getElem?_cons_zero]; rfl)
            focus exact fun _ _ _ h => h
            focus rfl
            focus (intro W hS; (try dsimp only at hS); obtain ⟨x0, x1, x2, zz0, zz1, zz2, uu0, uu1, uu2, vv0, vv1, vv2, q2, q3, hbb⟩ := hS; go_simp; (try with_reducible rfl))
            try simp only [Act.put]
            try simp only [List.setIfInBounds_toArray]
            try simp only [List.set_cons_succ]
            try simp only [List.set_cons_zero]
            refine wpAnyH_take (i := 38) (oi := ?_) (v := ?_) ?_ (by kernel_rfl) (by kernel_rfl) (by kernel_rfl) ?_ (Or.inl ⟨?_, ?_⟩) (by assumption) ?_
            rotate_left 2
            focus (simp only [List.getElem?_toArray, List.getElem?_cons_succ, List.getElem?_cons_zero]; rfl)
            focus exact fun _ _ _ h => h
            focus rfl
            focus (intro W hS; (try dsimp only at hS); obtain ⟨x0, x1, x2, zz0, zz1, zz2, uu0, uu1, uu2, vv0, vv1, vv2, q2, q3, hbb⟩ := hS; go_simp; (try with_reducible rfl))
            try simp only [Act.put]
            try simp only [List.setIfInBounds_toArray]
            try simp only [List.set_cons_succ]
            try simp only [List.set_cons_zero]
            refine wpAnyH_ready (rs := [36]) (by kernel_rfl) (by simp) ?_
            refine AllReadyH.cons (o := ?_) ?_ (fun K hK => ?_) AllReadyH.nil
            rotate_left
            focus (simp only [List.getElem?_toArray, List.getElem?_cons_succ, List.getElem?_cons_zero]; rfl)
            rw [if_pos (by rfl)]
            go_simp
            refine (C3.out _ hHeld.2.2.2.2.2.2.2.2.2.2.2.2.2.2).mono ?_
            rintro e w9 ⟨rfl, hb9⟩
            go_wp2_with fail
            refine hK.out _ _ ⟨stays hb9 hHeld.1, stays hb9 hHeld.2.1, stays hb9 hHeld.2.2.1, stays hb9 hHeld.2.2.2.1, stays hb9 hHeld.2.2.2.2.1, stays hb9 hHeld.2.2.2.2.2.1, stays hb9 hHeld.2.2.2.2.2.2.1, stays hb9 hHeld.2.2.2.2.2.2.2.1, stays hb9 hHeld.2.2.2.2.2.2.2.2.1, stays hb9 hHeld.2.2.2.2.2.2.2.2.2.1, stays hb9 hHeld.2.2.2.2.2.2.2.2.2.2.1, stays hb9 hHeld.2.2.2.2.2.2.2.2.2.2.2.1, HC2R.out _ (Below.trans hHeld.2.2.2.2.2.2.2.2.2.2.2.2.2.2 (hb9.mono (Below.size hHeld.2.2.2.2.2.2.2.2.2.2.2.2.2.2))), HC3R.out _ (Below.trans hHeld.2.2.2.2.2.2.2.2.2.2.2.2.2.2 (hb9.mono (Below.size hHeld.2.2.2.2.2.2.2.2.2.2.2.2.2.2))), Below.trans hHeld.2.2.2.2.2.2.2.2.2.2.2.2.2.2 (hb9.mono (Below.size hHeld.2.2.2.2.2.2.2.2.2.2.2.2.2.2))⟩ (fun hHeld => ?_)
            clear hK K
            try simp only [Act.put]
            try simp only [List.setIfInBounds_toArray]
            try simp only [List.set_cons_succ]
            try simp only [List.set_cons_zero]
            refine wpAnyH_ready (rs := [39]) (by kernel_rfl) (by simp) ?_
            refine AllReadyH.cons (o := ?_) ?_ (fun K hK => ?_) AllReadyH.nil
            rotate_left
            focus (simp only [List.getElem?_toArray, List.getElem?_cons_succ, List.getElem?_cons_zero]; rfl)
            rw [if_pos (by rfl)]
            go_simp
            refine (C2.out _ hHeld.2.2.2.2.2.2.2.2.2.2.2.2.2.2).mono ?_
            rintro e w9 ⟨rfl, hb9⟩
            go_wp2_with fail
            refine hK.out _ _ ⟨stays hb9 hHeld.1, stays hb9 hHeld.2.1, stays hb9 hHeld.2.2.1, stays hb9 hHeld.2.2.2.1, stays hb9 hHeld.2.2.2.2.1, stays hb9 hHeld.2.2.2.2.2.1, stays hb9 hHeld.2.2.2.2.2.2.1, stays hb9 hHeld.2.2.2.2.2.2.2.1, stays hb9 hHeld.2.2.2.2.2.2.2.2.1, stays hb9 hHeld.2.2.2.2.2.2.2.2.2.1, stays hb9 hHeld.2.2.2.2.2.2.2.2.2.2.1, stays hb9 hHeld.2.2.2.2.2.2.2.2.2.2.2.1, HC2R.out _ (Below.trans hHeld.2.2.2.2.2.2.2.2.2.2.2.2.2.2 (hb9.mono (Below.size hHeld.2.2.2.2.2.2.2.2.2.2.2.2.2.2))), HC3R.out _ (Below.trans hHeld.2.2.2.2.2.2.2.2.2.2.2.2.2.2 (hb9.mono (Below.size hHeld.2.2.2.2.2.2.2.2.2.2.2.2.2.2))), Below.trans hHeld.2.2.2.2.2.2.2.2.2.2.2.2.2.2 (hb9.mono (Below.size hHeld.2.2.2.2.2.2.2.2.2.2.2.2.2.2))⟩ (fun hHeld => ?_)
            clear hK K
            try simp only [Act.put]
            try simp only [List.setIfInBounds_toArray]
            try simp only [List.set_cons_succ]
            try simp only [List.set_cons_zero]
            refine wpAnyH_take (i := 40) (oi := ?_) (v := ?_) ?_ (by kernel_rfl) (by kernel_rfl) (by kernel_rfl) ?_ (Or.inl ⟨?_, ?_⟩) (by assumption) ?_
            rotate_left 2
            focus (simp only [List.getElem?_toArray, List.getElem?_cons_succ, List.getElem?_cons_zero]; rfl)
            focus exact fun _ _ _ h => h
            focus rfl
            focus (intro W hS; (try dsimp only at hS); obtain ⟨x0, x1, x2, zz0, zz1, zz2, uu0, uu1, uu2, vv0, vv1, vv2, q2, q3, hbb⟩ := hS; go_simp; (try with_reducible rfl))
            try simp only [Act.put]
            try simp only [List.setIfInBounds_toArray]
            try simp only [List.set_cons_succ]
            try simp only [List.set_cons_zero]
            refine wpAnyH_take (i := 41) (oi := ?_) (v := ?_) ?_ (by kernel_rfl) (by kernel_rfl) (by kernel_rfl) ?_ (Or.inl ⟨?_, ?_⟩) (by assumption) ?_
            rotate_left 2
            focus (simp only [List.getElem?_toArray, List.getElem?_cons_succ, List.getElem?_cons_zero]; rfl)
            focus exact fun _ _ _ h => h
            focus rfl
            focus (intro W hS; (try dsimp only at hS); obtain ⟨x0, x1, x2, zz0, zz1, zz2, uu0, uu1, uu2, vv0, vv1, vv2, q2, q3, hbb⟩ := hS; go_simp; (try with_reducible rfl))
            try simp only [Act.put]
            try simp only [List.setIfInBounds_toArray]
            try simp only [List.set_cons_succ]
            try simp only [List.set_cons_zero]
            refine wpAnyH_take (i := 42) (oi := ?_) (v := ?_) ?_ (by kernel_rfl) (by kernel_rfl) (by kernel_rfl) ?_ (Or.inl ⟨?_, ?_⟩) (by assumption) ?_
            rotate_left 2
            focus (simp only [List.getElem?_toArray, List.getElem?_cons_succ, List.getElem?_cons_zero]; rfl)
            focus exact fun _ _ _ h => h
            focus rfl
            focus (intro W hS; (try dsimp only at hS); go_simp; (try with_reducible rfl))
            try simp only [Act.put]
            try simp only [List.setIfInBounds_toArray]
            try simp only [List.set_cons_succ]
            try simp only [List.set_cons_zero]
            refine wpAnyH_done (by kernel_rfl) ?_ _
            have hBW : Below wB.heap.size wB _ := hHeld.2.2.2.2.2.2.2.2.2.2.2.2.2.2
            go_wp2_with fail
            go_ret
            exact ⟨rfl, HBB.out.trans (hBW.mono HBB.out.size)⟩
          · subst hf0
            have HC2R := Lib.hid hcv2
            have HC3R := Lib.hid hcv3
            clear hcv2 hcv3
            have c1 := fun (W : World) (hW : Below wB.heap.size wB W) => refSame_ent z z az au cz cu W (HTZ.out.below hW) (HTU.out.below hW)
            have c2' := fun (W : World) (hW : Below wB.heap.size wB W) => refSame_ent z x az a cz c W (HTZ.out.below hW) (HTX.out.below hW)
            have c3' := fun (W : World) (hW : Below wB.heap.size wB W) => same_ent z x az a cz c W (HTZ.out.below hW) (HTX.out.below hW)
            have c4' := fun (W : World) (hW : Below wB.heap.size wB W) => same_ent v x av a cv c W (HTV.out.below hW) (HTX.out.below hW)
            rw [HSE.out] at c1
            generalize sameE z x = q at c2' c3'
            have C1 := Lib.hid c1
            have C2 := Lib.hid c2'
            have C3 := Lib.hid c3'
            have _C4 := Lib.hid c4'
            clear c1 c2' c3' c4'
            go_wp2_with fail
            refine wp_region_held_drew (S := (fun W => W.cell? ⟨w.heap.size, 0, none⟩ = some (.int .u64 (x.ix : Int)) ∧ W.cell? ⟨w.heap.size, 1, none⟩ = some (.int .u64 (x.term : Int)) ∧ W.cell? ⟨w.heap.size, 2, none⟩ = some (.slice a x.body.length c) ∧ W.cell? ⟨w4.heap.size, 0, none⟩ = some (.int .u64 (z.ix : Int)) ∧ W.cell? ⟨w4.heap.size, 1, none⟩ = some (.int .u64 (z.term : Int)) ∧ W.cell? ⟨w4.heap.size, 2, none⟩ = some (.slice az z.body.length cz) ∧ W.cell? ⟨w6.heap.size, 0, none⟩ = some (.int .u64 (z.ix : Int)) ∧ W.cell? ⟨w6.heap.size, 1, none⟩ = some (.int .u64 (z.term : Int)) ∧ W.cell? ⟨w6.heap.size, 2, none⟩ = some (.slice au z.body.length cu) ∧ W.cell? ⟨w8.heap.size, 0, none⟩ = some (.int .u64 (v.ix : Int)) ∧ W.cell? ⟨w8.heap.size, 1, none⟩ = some (.int .u64 (v.term : Int)) ∧ W.cell? ⟨w8.heap.size, 2, none⟩ = some (.slice av v.body.length cv) ∧ (convert 39 9 (.slice a2 xs.length c2)).run Tryz.prog W = .ok (.string SX) W ∧ (convert 39 9 (.slice a3 xs.length c3)).run Tryz.prog W = .ok (.string SX) W ∧ Below wB.heap.size wB W)) (by kernel_rfl) ⟨e0, e1, e2, z0, z1, z2, u0, u1, u2, v0, v1, v2, HC2R.out _ (Below.refl _ _).drew, HC3R.out _ (Below.refl _ _).drew, (Below.refl _ _).drew⟩ (fun hHeld => ?_)
            refine wpAnyH_take (i := 0) (oi := ?_) (v := ?_) ?_ (by kernel_rfl) (by kernel_rfl) (by kernel_rfl) ?_ (Or.inl ⟨?_, ?_⟩) (by assumption) ?_
            rotate_left 2
            focus (simp only [List.getElem?_toArray, List.getElem?_cons_zero]; rfl)
            focus exact fun _ _ _ h => h
            focus rfl
            focus (intro W hS; (try dsimp only at hS); obtain ⟨x0, x1, x2, zz0, zz1, zz2, uu0, uu1, uu2, vv0, vv1, vv2, q2, q3, hbb⟩ := hS; go_simp; (try with_reducible rfl))
            try simp only [Act.put]
            try simp only [List.setIfInBounds_toArray]
            try simp only [List.set_cons_succ]
            try simp only [List.set_cons_zero]
            refine wpAnyH_take (i := 1) (oi := ?_) (v := ?_) ?_ (by kernel_rfl) (by kernel_rfl) (by kernel_rfl) ?_ (Or.inl ⟨?_, ?_⟩) (by assumption) ?_
            rotate_left 2
            focus (simp only [List.getElem?_toArray, List.getElem?_cons_succ, List.getElem?_cons_zero]; rfl)
            focus exact fun _ _ _ h => h
            focus rfl
            focus (intro W hS; (try dsimp only at hS); obtain ⟨x0, x1, x2, zz0, zz1, zz2, uu0, uu1, uu2, vv0, vv1, vv2, q2, q3, hbb⟩ := hS; go_simp; (try with_reducible rfl))
            try simp only [Act.put]
            try simp only [List.setIfInBounds_toArray]
            try simp only [List.set_cons_succ]
            try simp only [List.set_cons_zero]
            refine wpAnyH_take (i := 2) (oi := ?_) (v := ?_) ?_ (by kernel_rfl) (by kernel_rfl) (by kernel_rfl) ?_ (Or.inl ⟨?_, ?_⟩) (by assumption) ?_
            rotate_left 2
            focus (simp only [List.getElem?_toArray, List.getElem?_cons_succ, List.getElem?_cons_zero]; rfl)
            focus exact fun _ _ _ h => h
            focus rfl
            focus (intro W hS; (try dsimp only at hS); obtain ⟨x0, x1, x2, zz0, zz1, zz2, uu0, uu1, uu2, vv0, vv1, vv2, q2, q3, hbb⟩ := hS; go_simp; (try with_reducible rfl))
            try simp only [Act.put]
            try simp only [List.setIfInBounds_toArray]
            try simp only [List.set_cons_succ]
            try simp only [List.set_cons_zero]
            refine wpAnyH_take (i := 3) (oi := ?_) (v := ?_) ?_ (by kernel_rfl) (by kernel_rfl) (by kernel_rfl) ?_ (Or.inl ⟨?_, ?_⟩) (by assumption) ?_
            rotate_left 2
            focus (simp only [List.getElem?_toArray, List.getElem?_cons_succ, List.getElem?_cons_zero]; rfl)
            focus exact fun _ _ _ h => h
            focus rfl
            focus (intro W hS; (try dsimp only at hS); obtain ⟨x0, x1, x2, zz0, zz1, zz2, uu0, uu1, uu2, vv0, vv1, vv2, q2, q3, hbb⟩ := hS; go_simp; (try with_reducible rfl))
            try simp only [Act.put]
            try simp only [List.setIfInBounds_toArray]
            try simp only [List.set_cons_succ]
            try simp only [List.set_cons_zero]
            refine wpAnyH_take (i := 4) (oi := ?_) (v := ?_) ?_ (by kernel_rfl) (by kernel_rfl) (by kernel_rfl) ?_ (Or.inl ⟨?_, ?_⟩) (by assumption) ?_
            rotate_left 2
            focus (simp only [List.getElem?_toArray, List.getElem?_cons_succ, List.getElem?_cons_zero]; rfl)
            focus exact fun _ _ _ h => h
            focus rfl
            focus (intro W hS; (try dsimp only at hS); obtain ⟨x0, x1, x2, zz0, zz1, zz2, uu0, uu1, uu2, vv0, vv1, vv2, q2, q3, hbb⟩ := hS; go_simp; (try with_reducible rfl))
            try simp only [Act.put]
            try simp only [List.setIfInBounds_toArray]
            try simp only [List.set_cons_succ]
            try simp only [List.set_cons_zero]
            refine wpAnyH_take (i := 5) (oi := ?_) (v := ?_) ?_ (by kernel_rfl) (by kernel_rfl) (by kernel_rfl) ?_ (Or.inl ⟨?_, ?_⟩) (by assumption) ?_
            rotate_left 2
            focus (simp only [List.getElem?_toArray, List.getElem?_cons_succ, List.getElem?_cons_zero]; rfl)
            focus exact fun _ _ _ h => h
            focus rfl
            focus (intro W hS; (try dsimp only at hS); obtain ⟨x0, x1, x2, zz0, zz1, zz2, uu0, uu1, uu2, vv0, vv1, vv2, q2, q3, hbb⟩ := hS; go_simp; (try with_reducible rfl))
            try simp only [Act.put]
            try simp only [List.setIfInBounds_toArray]
            try simp only [List.set_cons_succ]
            try simp only [List.set_cons_zero]
            refine wpAnyH_take (i := 6) (oi := ?_) (v := ?_) ?_ (by kernel_rfl) (by kernel_rfl) (by kernel_rfl) ?_ (Or.inl ⟨?_, ?_⟩) (by assumption) ?_
            rotate_left 2
            focus (simp only [List.getElem?_toArray, List.getElem?_cons_succ, List.getElem?_cons_zero]; rfl)
            focus exact fun _ _ _ h => h
            focus rfl
            focus (intro W hS; (try dsimp only at hS); obtain ⟨x0, x1, x2, zz0, zz1, zz2, uu0, uu1, uu2, vv0, vv1, vv2, q2, q3, hbb⟩ := hS; go_simp; (try with_reducible rfl))
            try simp only [Act.put]
            try simp only [List.setIfInBounds_toArray]
            try simp only [List.set_cons_succ]
            try simp only [List.set_cons_zero]
            refine wpAnyH_take (i := 7) (oi := ?_) (v := ?_) ?_ (by kernel_rfl) (by kernel_rfl) (by kernel_rfl) ?_ (Or.inl ⟨?_, ?_⟩) (by assumption) ?_
            rotate_left 2
            focus (simp only [List.getElem?_toArray, List.getElem?_cons_succ, List.getElem?_cons_zero]; rfl)
            focus exact fun _ _ _ h => h
            focus rfl
            focus (intro W hS; (try dsimp only at hS); obtain ⟨x0, x1, x2, zz0, zz1, zz2, uu0, uu1, uu2, vv0, vv1, vv2, q2, q3, hbb⟩ := hS; go_simp; (try with_reducible rfl))
            try simp only [Act.put]
            try simp only [List.setIfInBounds_toArray]
            try simp only [List.set_cons_succ]
            try simp only [List.set_cons_zero]
            refine wpAnyH_take (i := 8) (oi := ?_) (v := ?_) ?_ (by kernel_rfl) (by kernel_rfl) (by kernel_rfl) ?_ (Or.inl ⟨?_, ?_⟩) (by assumption) ?_
            rotate_left 2
            focus (simp only [List.getElem?_toArray, List.getElem?_cons_succ, List.getElem?_cons_zero]; rfl)
            focus exact fun _ _ _ h => h
            focus rfl
            focus (intro W hS; (try dsimp only at hS); obtain ⟨x0, x1, x2, zz0, zz1, zz2, uu0, uu1, uu2, vv0, vv1, vv2, q2, q3, hbb⟩ := hS; go_simp; (try with_reducible rfl))
            try simp only [Act.put]
            try simp only [List.setIfInBounds_toArray]
            try simp only [List.set_cons_succ]
            try simp only [List.set_cons_zero]
            refine wpAnyH_take (i := 9) (oi := ?_) (v := ?_) ?_ (by kernel_rfl) (by kernel_rfl) (by kernel_rfl) ?_ (Or.inl ⟨?_, ?_⟩) (by assumption) ?_
            rotate_left 2
            focus (simp only [List.getElem?_toArray, List.getElem?_cons_succ, List.getElem?_cons_zero]; rfl)
            focus exact fun _ _ _ h => h
            focus rfl
            focus (intro W hS; (try dsimp only at hS); obtain ⟨x0, x1, x2, zz0, zz1, zz2, uu0, uu1, uu2, vv0, vv1, vv2, q2, q3, hbb⟩ := hS; go_simp; (try with_reducible rfl))
            try simp only [Act.put]
            try simp only [List.setIfInBounds_toArray]
            try simp only [List.set_cons_succ]
            try simp only [List.set_cons_zero]
            refine wpAnyH_take (i := 10) (oi := ?_) (v := ?_) ?_ (by kernel_rfl) (by kernel_rfl) (by kernel_rfl) ?_ (Or.inl ⟨?_, ?_⟩) (by assumption) ?_
            rotate_left 2
            focus (simp only [List.getElem?_toArray, List.getElem?_cons_succ, List.getElem?_cons_zero]; rfl)
            focus exact fun _ _ _ h => h
            focus rfl
            focus (intro W hS; (try dsimp only at hS); obtain ⟨x0, x1, x2, zz0, zz1, zz2, uu0, uu1, uu2, vv0, vv1, vv2, q2, q3, hbb⟩ := hS; go_simp; (try with_reducible rfl))
            try simp only [Act.put]
            try simp only [List.setIfInBounds_toArray]
            try simp only [List.set_cons_succ]
            try simp only [List.set_cons_zero]
            refine wpAnyH_take (i := 11) (oi := ?_) (v := ?_) ?_ (by kernel_rfl) (by kernel_rfl) (by kernel_rfl) ?_ (Or.inl ⟨?_, ?_⟩) (by assumption) ?_
            rotate_left 2
            focus (simp only [List.getElem?_toArray, List.getElem?_cons_succ, List.getElem?_cons_zero]; rfl)
            focus exact fun _ _ _ h => h
            focus rfl
            focus (intro W hS; (try dsimp only at hS); obtain ⟨x0, x1, x2, zz0, zz1, zz2, uu0, uu1, uu2, vv0, vv1, vv2, q2, q3, hbb⟩ := hS; go_simp; (try with_reducible rfl))
            try simp only [Act.put]
            try simp only [List.setIfInBounds_toArray]
            try simp only [List.set_cons_succ]
            try simp only [List.set_cons_zero]
            refine wpAnyH_take (i := 12) (oi := ?_) (v := ?_) ?_ (by kernel_rfl) (by kernel_rfl) (by kernel_rfl) ?_ (Or.inl ⟨?_, ?_⟩) (by assumption) ?_
            rotate_left 2
            focus (simp only [List.getElem?_toArray, List.getElem?_cons_succ, List.getElem?_cons_zero]; rfl)
            focus exact fun _ _ _ h => h
            focus rfl
            focus (intro W hS; (try dsimp only at hS); obtain ⟨x0, x1, x2, zz0, zz1, zz2, uu0, uu1, uu2, vv0, vv1, vv2, q2, q3, hbb⟩ := hS; go_simp; (try with_reducible rfl))
            try simp only [Act.put]
            try simp only [List.setIfInBounds_toArray]
            try simp only [List.set_cons_succ]
            try simp only [List.set_cons_zero]
            refine wpAnyH_ready (rs := [13]) (by kernel_rfl) (by simp) ?_
            refine AllReadyH.cons (o := ?_) ?_ (fun K hK => ?_) AllReadyH.nil
            rotate_left
            focus (simp only [List.getElem?_toArray, List.getElem?_cons_succ, List.getElem?_cons_zero]; rfl)
            rw [if_pos (by rfl)]
            go_simp
            refine (C1.out _ hHeld.2.2.2.2.2.2.2.2.2.2.2.2.2.2).mono ?_
            rintro e w9 ⟨rfl, hb9⟩
            go_wp2_with fail
            refine hK.out _ _ ⟨stays hb9 hHeld.1, stays hb9 hHeld.2.1, stays hb9 hHeld.2.2.1, stays hb9 hHeld.2.2.2.1, stays hb9 hHeld.2.2.2.2.1, stays hb9 hHeld.2.2.2.2.2.1, stays hb9 hHeld.2.2.2.2.2.2.1, stays hb9 hHeld.2.2.2.2.2.2.2.1, stays hb9 hHeld.2.2.2.2.2.2.2.2.1, stays hb9 hHeld.2.2.2.2.2.2.2.2.2.1, stays hb9 hHeld.2.2.2.2.2.2.2.2.2.2.1, stays hb9 hHeld.2.2.2.2.2.2.2.2.2.2.2.1, HC2R.out _ (Below.trans hHeld.2.2.2.2.2.2.2.2.2.2.2.2.2.2 (hb9.mono (Below.size hHeld.2.2.2.2.2.2.2.2.2.2.2.2.2.2))), HC3R.out _ (Below.trans hHeld.2.2.2.2.2.2.2.2.2.2.2.2.2.2 (hb9.mono (Below.size hHeld.2.2.2.2.2.2.2.2.2.2.2.2.2.2))), Below.trans hHeld.2.2.2.2.2.2.2.2.2.2.2.2.2.2 (hb9.mono (Below.size hHeld.2.2.2.2.2.2.2.2.2.2.2.2.2.2))⟩ (fun hHeld => ?_)
            clear hK K
            try simp only [Act.put]
            try simp only [List.setIfInBounds_toArray]
            try simp only [List.set_cons_succ]
            try simp only [List.set_cons_zero]
            refine wpAnyH_take (i := 14) (oi := ?_) (v := ?_) ?_ (by kernel_rfl) (by kernel_rfl) (by kernel_rfl) ?_ (Or.inl ⟨?_, ?_⟩) (by assumption) ?_
            rotate_left 2
            focus (simp only [List.getElem?_toArray, List.getElem?_cons_succ, List.getElem?_cons_zero]; rfl)
            focus exact fun _ _ _ h => h
            focus rfl
            focus (intro W hS; (try dsimp only at hS); obtain ⟨x0, x1, x2, zz0, zz1, zz2, uu0, uu1, uu2, vv0, vv1, vv2, q2, q3, hbb⟩ := hS; go_simp; (try with_reducible rfl))
            try simp only [Act.put]
            try simp only [List.setIfInBounds_toArray]
            try simp only [List.set_cons_succ]
            try simp only [List.set_cons_zero]
            refine wpAnyH_take (i := 15) (oi := ?_) (v := ?_) ?_ (by kernel_rfl) (by kernel_rfl) (by kernel_rfl) ?_ (Or.inl ⟨?_, ?_⟩) (by assumption) ?_
            rotate_left 2
            focus (simp only [List.getElem?_toArray, List.getElem?_cons_succ, List.getElem?_cons_zero]; rfl)
            focus exact fun _ _ _ h => h
            focus rfl
            focus (intro W hS; (try dsimp only at hS); obtain ⟨x0, x1, x2, zz0, zz1, zz2, uu0, uu1, uu2, vv0, vv1, vv2, q2, q3, hbb⟩ := hS; go_simp; (try with_reducible rfl))
            try simp only [Act.put]
            try simp only [List.setIfInBounds_toArray]
            try simp only [List.set_cons_succ]
            try simp only [List.set_cons_zero]
            refine wpAnyH_take (i := 16) (oi := ?_) (v := ?_) ?_ (by kernel_rfl) (by kernel_rfl) (by kernel_rfl) ?_ (Or.inl ⟨?_, ?_⟩) (by assumption) ?_
            rotate_left 2
            focus (simp only [List.getElem?_toArray, List.getElem?_cons_succ, List.getElem?_cons_zero]; rfl)
            focus exact fun _ _ _ h => h
            focus rfl
            focus (intro W hS; (try dsimp only at hS); obtain ⟨x0, x1, x2, zz0, zz1, zz2, uu0, uu1, uu2, vv0, vv1, vv2, q2, q3, hbb⟩ := hS; go_simp; (try with_reducible rfl))
            try simp only [Act.put]
            try simp only [List.setIfInBounds_toArray]
            try simp only [List.set_cons_succ]
            try simp only [List.set_cons_zero]
            refine wpAnyH_take (i := 17) (oi := ?_) (v := ?_) ?_ (by kernel_rfl) (by kernel_rfl) (by kernel_rfl) ?_ (Or.inl ⟨?_, ?_⟩) (by assumption) ?_
            rotate_left 2
            focus (simp only [List.getElem?_toArray, List.getElem?_cons_succ, List.getElem?_cons_zero]; rfl)
            focus exact fun _ _ _ h => h
            focus rfl
            focus (intro W hS; (try dsimp only at hS); obtain ⟨x0, x1, x2, zz0, zz1, zz2, uu0, uu1, uu2, vv0, vv1, vv2, q2, q3, hbb⟩ := hS; go_simp; (try with_reducible rfl))
            try simp only [Act.put]
            try simp only [List.setIfInBounds_toArray]
            try simp only [List.set_cons_succ]
            try simp only [List.set_cons_zero]
            refine wpAnyH_take (i := 18) (oi := ?_) (v := ?_) ?_ (by kernel_rfl) (by kernel_rfl) (by kernel_rfl) ?_ (Or.inl ⟨?_, ?_⟩) (by assumption) ?_
            rotate_left 2
            focus (simp only [List.getElem?_toArray, List.getElem?_cons_succ, List.getElem?_cons_zero]; rfl)
            focus exact fun _ _ _ h => h
            focus rfl
            focus (intro W hS; (try dsimp only at hS); obtain ⟨x0, x1, x2, zz0, zz1, zz2, uu0, uu1, uu2, vv0, vv1, vv2, q2, q3, hbb⟩ := hS; go_simp; (try with_reducible rfl))
            try simp only [Act.put]
            try simp only [List.setIfInBounds_toArray]
            try simp only [List.set_cons_succ]
            try simp only [List.set_cons_zero]
            refine wpAnyH_take (i := 19) (oi := ?_) (v := ?_) ?_ (by kernel_rfl) (by kernel_rfl) (by kernel_rfl) ?_ (Or.inl ⟨?_, ?_⟩) (by assumption) ?_
            rotate_left 2
            focus (simp only [List.getElem?_toArray, List.getElem?_cons_succ, List.getElem?_cons_zero]; rfl)
            focus exact fun _ _ _ h => h
            focus rfl
            focus (intro W hS; (try dsimp only at hS); obtain ⟨x0, x1, x2, zz0, zz1, zz2, uu0, uu1, uu2, vv0, vv1, vv2, q2, q3, hbb⟩ := hS; go_simp; (try with_reducible rfl))
            try simp only [Act.put]
            try simp only [List.setIfInBounds_toArray]
            try simp only [List.set_cons_succ]
            try simp only [List.set_cons_zero]
            refine wpAnyH_take (i := 20) (oi := ?_) (v := ?_) ?_ (by kernel_rfl) (by kernel_rfl) (by kernel_rfl) ?_ (Or.inl ⟨?_, ?_⟩) (by assumption) ?_
            rotate_left 2
            focus (simp only [List.getElem?_toArray, List.getElem?_cons_succ, List.getElem?_cons_zero]; rfl)
            focus exact fun _ _ _ h => h
            focus rfl
            focus (intro W hS; (try dsimp only at hS); obtain ⟨x0, x1, x2, zz0, zz1, zz2, uu0, uu1, uu2, vv0, vv1, vv2, q2, q3, hbb⟩ := hS; go_simp; (try with_reducible rfl))
            try simp only [Act.put]
            try simp only [List.setIfInBounds_toArray]
            try simp only [List.set_cons_succ]
            try simp only [List.set_cons_zero]
            refine wpAnyH_take (i := 21) (oi := ?_) (v := ?_) ?_ (by kernel_rfl) (by kernel_rfl) (by kernel_rfl) ?_ (Or.inl ⟨?_, ?_⟩) (by assumption) ?_
            rotate_left 2
            focus (simp only [List.getElem?_toArray, List.getElem?_cons_succ, List.getElem?_cons_zero]; rfl)
            focus exact fun _ _ _ h => h
            focus rfl
            focus (intro W hS; (try dsimp only at hS); obtain ⟨x0, x1, x2, zz0, zz1, zz2, uu0, uu1, uu2, vv0, vv1, vv2, q2, q3, hbb⟩ := hS; go_simp; (try with_reducible rfl))
            try simp only [Act.put]
            try simp only [List.setIfInBounds_toArray]
            try simp only [List.set_cons_succ]
            try simp only [List.set_cons_zero]
            refine wpAnyH_take (i := 22) (oi := ?_) (v := ?_) ?_ (by kernel_rfl) (by kernel_rfl) (by kernel_rfl) ?_ (Or.inl ⟨?_, ?_⟩) (by assumption) ?_
            rotate_left 2
            focus (simp only [List.getElem?_toArray, List.getElem?_cons_succ, List.getElem?_cons_zero]; rfl)
            focus exact fun _ _ _ h => h
            focus rfl
            focus (intro W hS; (try dsimp only at hS); obtain ⟨x0, x1, x2, zz0, zz1, zz2, uu0, uu1, uu2, vv0, vv1, vv2, q2, q3, hbb⟩ := hS; go_simp; (try with_reducible rfl))
            try simp only [Act.put]
            try simp only [List.setIfInBounds_toArray]
            try simp only [List.set_cons_succ]
            try simp only [List.set_cons_zero]
            refine wpAnyH_take (i := 23) (oi := ?_) (v := ?_) ?_ (by kernel_rfl) (by kernel_rfl) (by kernel_rfl) ?_ (Or.inl ⟨?_, ?_⟩) (by assumption) ?_
            rotate_left 2
            focus (simp only [List.getElem?_toArray, List.getElem?_cons_succ, List.getElem?_cons_zero]; rfl)
            focus exact fun _ _ _ h => h
            focus rfl
            focus (intro W hS; (try dsimp only at hS); obtain ⟨x0, x1, x2, zz0, zz1, zz2, uu0, uu1, uu2, vv0, vv1, vv2, q2, q3, hbb⟩ := hS; go_simp; (try with_reducible rfl))
            try simp only [Act.put]
            try simp only [List.setIfInBounds_toArray]
            try simp only [List.set_cons_succ]
            try simp only [List.set_cons_zero]
            refine wpAnyH_take (i := 24) (oi := ?_) (v := undef) ?_ (by kernel_rfl) (by kernel_rfl) (by kernel_rfl) ?_ (Or.inr ⟨?_, rfl⟩) (by assumption) ?_
            rotate_left
            focus (simp only [List.getElem?_toArray, List.getElem?_cons_succ, List.getElem?_cons_zero]; rfl)
            focus exact fun _ _ _ h => h
            focus rfl
            try simp only [Act.put]
            try simp only [List.setIfInBounds_toArray]
            try simp only [List.set_cons_succ]
            try simp only [List.set_cons_zero]
            refine wpAnyH_take (i := 25) (oi := ?_) (v := undef) ?_ (by kernel_rfl) (by kernel_rfl) (by kernel_rfl) ?_ (Or.inr ⟨?_, rfl⟩) (by assumption) ?_
            rotate_left
            focus (simp only [List.getElem?_toArray, List.getElem?_cons_succ, List.getElem?_cons_zero]; rfl)
            focus exact fun _ _ _ h => h
            focus rfl
            try simp only [Act.put]
            try simp only [List.setIfInBounds_toArray]
            try simp only [List.set_cons_succ]
            try simp only [List.set_cons_zero]
            refine wpAnyH_take (i := 26) (oi := ?_) (v := undef) ?_ (by kernel_rfl) (by kernel_rfl) (by kernel_rfl) ?_ (Or.inr ⟨?_, rfl⟩) (by assumption) ?_
            rotate_left
            focus (simp only [List.getElem?_toArray, List.getElem?_cons_succ, List.getElem?_cons_zero]; rfl)
            focus exact fun _ _ _ h => h
            focus rfl
            try simp only [Act.put]
            try simp only [List.setIfInBounds_toArray]
            try simp only [List.set_cons_succ]
            try simp only [List.set_cons_zero]
            refine wpAnyH_take (i := 27) (oi := ?_) (v := undef) ?_ (by kernel_rfl) (by kernel_rfl) (by kernel_rfl) ?_ (Or.inr ⟨?_, rfl⟩) (by assumption) ?_
            rotate_left
            focus (simp only [List.getElem?_toArray, List.getElem?_cons_succ, List.getElem?_cons_zero]; rfl)
            focus exact fun _ _ _ h => h
            focus rfl
            try simp only [Act.put]
            try simp only [List.setIfInBounds_toArray]
            try simp only [List.set_cons_succ]
            try simp only [List.set_cons_zero]
            refine wpAnyH_take (i := 28) (oi := ?_) (v := undef) ?_ (by kernel_rfl) (by kernel_rfl) (by kernel_rfl) ?_ (Or.inr ⟨?_, rfl⟩) (by assumption) ?_
            rotate_left
            focus (simp only [List.getElem?_toArray, List.getElem?_cons_succ, List.getElem?_cons_zero]; rfl)
            focus exact fun _ _ _ h => h
            focus rfl
            try simp only [Act.put]
            try simp only [List.setIfInBounds_toArray]
            try simp only [List.set_cons_succ]
            try simp only [List.set_cons_zero]
            refine wpAnyH_take (i := 29) (oi := ?_) (v := undef) ?_ (by kernel_rfl) (by kernel_rfl) (by kernel_rfl) ?_ (Or.inr ⟨?_, rfl⟩) (by assumption) ?_
            rotate_left
            focus (simp only [List.getElem?_toArray, List.getElem?_cons_succ, List.getElem?_cons_zero]; rfl)
            focus exact fun _ _ _ h => h
            focus rfl
            try simp only [Act.put]
            try simp only [List.setIfInBounds_toArray]
            try simp only [List.set_cons_succ]
            try simp only [List.set_cons_zero]
            refine wpAnyH_take (i := 30) (oi := ?_) (v := undef) ?_ (by kernel_rfl) (by kernel_rfl) (by kernel_rfl) ?_ (Or.inr ⟨?_, rfl⟩) (by assumption) ?_
            rotate_left
            focus (simp only [List.getElem?_toArray, List.getElem?_cons_succ, List.getElem?_cons_zero]; rfl)
            focus exact fun _ _ _ h => h
            focus rfl
            try simp only [Act.put]
            try simp only [List.setIfInBounds_toArray]
            try simp only [List.set_cons_succ]
            try simp only [List.set_cons_zero]
            refine wpAnyH_take (i := 31) (oi := ?_) (v := ?_) ?_ (by kernel_rfl) (by kernel_rfl) (by kernel_rfl) ?_ (Or.inl ⟨?_, ?_⟩) (by assumption) ?_
            rotate_left 2
            focus (simp only [List.getElem?_toArray, List.getElem?_cons_succ, List.getElem?_cons_zero]; rfl)
            focus exact fun _ _ _ h => h
            focus rfl
            focus (intro W hS; (try dsimp only at hS); obtain ⟨x0, x1, x2, zz0, zz1, zz2, uu0, uu1, uu2, vv0, vv1, vv2, q2, q3, hbb⟩ := hS; go_simp; (try with_reducible rfl))
            try simp only [Act.put]
            try simp only [List.setIfInBounds_toArray]
            try simp only [List.set_cons_succ]
            try simp only [List.set_cons_zero]
            refine wpAnyH_take (i := 32) (oi := ?_) (v := ?_) ?_ (by kernel_rfl) (by kernel_rfl) (by kernel_rfl) ?_ (Or.inl ⟨?_, ?_⟩) (by assumption) ?_
            rotate_left 2
            focus (simp only [List.getElem?_toArray, List.getElem?_cons_succ, List.getElem?_cons_zero]; rfl)
            focus exact fun _ _ _ h => h
            focus rfl
            focus (intro W hS; (try dsimp only at hS); obtain ⟨x0, x1, x2, zz0, zz1, zz2, uu0, uu1, uu2, vv0, vv1, vv2, q2, q3, hbb⟩ := hS; go_simp; (try with_reducible rfl))
            try simp only [Act.put]
            try simp only [List.setIfInBounds_toArray]
            try simp only [List.set_cons_succ]
            try simp only [List.set_cons_zero]
            refine wpAnyH_take (i := 33) (oi := ?_) (v := ?_) ?_ (by kernel_rfl) (by kernel_rfl) (by kernel_rfl) ?_ (Or.inl ⟨?_, ?_⟩) (by assumption) ?_
            rotate_left 2
            focus (simp only [List.getElem?_toArray, List.getElem?_cons_succ, List.getElem?_cons_zero]; rfl)
            focus exact fun _ _ _ h => h
            focus rfl
            focus (intro W hS; (try dsimp only at hS); obtain ⟨x0, x1, x2, zz0, zz1, zz2, uu0, uu1, uu2, vv0, vv1, vv2, q2, q3, hbb⟩ := hS; go_simp; (try with_reducible rfl))
            try simp only [Act.put]
            try simp only [List.setIfInBounds_toArray]
            try simp only [List.set_cons_succ]
            try simp only [List.set_cons_zero]
            refine wpAnyH_take (i := 34) (oi := ?_) (v := ?_) ?_ (by kernel_rfl) (by kernel_rfl) (by kernel_rfl) ?_ (Or.inl ⟨?_, ?_⟩) (by assumption) ?_
            rotate_left 2
            focus (simp only [List.getElem?_toArray, List.getElem?_cons_succ, List.getElem?_cons_zero]; rfl)
            focus exact fun _ _ _ h => h
            focus rfl
            focus (intro W hS; (try dsimp only at hS); obtain ⟨x0, x1, x2, zz0, zz1, zz2, uu0, uu1, uu2, vv0, vv1, vv2, q2, q3, hbb⟩ := hS; go_simp; (try with_reducible rfl))
            try simp only [Act.put]
            try simp only [List.setIfInBounds_toArray]
            try simp only [List.set_cons_succ]
            try simp only [List.set_cons_zero]
            refine wpAnyH_take (i := 35) (oi := ?_) (v := ?_) ?_ (by kernel_rfl) (by kernel_rfl) (by kernel_rfl) ?_ (Or.inl ⟨?_, ?_⟩) (by assumption) ?_
            rotate_left 2
            focus (simp only [List.getElem?_toArray, List.getElem?_cons_succ, List.getElem?_cons_zero]; rfl)
            focus exact fun _ _ _ h => h
            focus rfl
            focus (intro W hS; (try dsimp only at hS); obtain ⟨x0, x1, x2, zz0, zz1, zz2, uu0, uu1, uu2, vv0, vv1, vv2, q2, q3, hbb⟩ := hS; go_simp; (try with_reducible rfl))
            try simp only [Act.put]
            try simp only [List.setIfInBounds_toArray]
            try simp only [List.set_cons_succ]
            try simp only [List.set_cons_zero]
            refine wpAnyH_take (i := 37) (oi := ?_) (v := ?_) ?_ (by kernel_rfl) (by kernel_rfl) (by kernel_rfl) ?_ (Or.inl ⟨?_, ?_⟩) (by assumption) ?_
            rotate_left 2
            focus (simp only [List.getElem?_toArray, List.getElem?_cons_succ, List.getElem?_cons_zero]; rfl)
            focus exact fun _ _ _ h => h
            focus rfl
            focus (intro W hS; (try dsimp only at hS); obtain ⟨x0, x1, x2, zz0, zz1, zz2, uu0, uu1, uu2, vv0, vv1, vv2, q2, q3, hbb⟩ := hS; go_simp; (try with_reducible rfl))
            try simp only [Act.put]
            try simp only [List.setIfInBounds_toArray]
            try simp only [List.set_cons_succ]
            try simp only [List.set_cons_zero]
            refine wpAnyH_take (i := 38) (oi := ?_) (v := ?_) ?_ (by kernel_rfl) (by kernel_rfl) (by kernel_rfl) ?_ (Or.inl ⟨?_, ?_⟩) (by assumption) ?_
            rotate_left 2
            focus (simp only [List.getElem?_toArray, List.getElem?_cons_succ, List.getElem?_cons_zero]; rfl)
            focus exact fun _ _ _ h => h
            focus rfl
            focus (intro W hS; (try dsimp only at hS); obtain ⟨x0, x1, x2, zz0, zz1, zz2, uu0, uu1, uu2, vv0, vv1, vv2, q2, q3, hbb⟩ := hS; go_simp; (try with_reducible rfl))
            try simp only [Act.put]
            try simp only [List.setIfInBounds_toArray]
            try simp only [List.set_cons_succ]
            try simp only [List.set_cons_zero]
            refine wpAnyH_ready (rs := [36]) (by kernel_rfl) (by simp) ?_
            refine AllReadyH.cons (o := ?_) ?_ (fun K hK => ?_) AllReadyH.nil
            rotate_left
            focus (simp only [List.getElem?_toArray, List.getElem?_cons_succ, List.getElem?_cons_zero]; rfl)
            rw [if_pos (by rfl)]
            go_simp
            refine (C3.out _ hHeld.2.2.2.2.2.2.2.2.2.2.2.2.2.2).mono ?_
            rintro e w9 ⟨rfl, hb9⟩
            go_wp2_with fail
            refine hK.out _ _ ⟨stays hb9 hHeld.1, stays hb9 hHeld.2.1, stays hb9 hHeld.2.2.1, stays hb9 hHeld.2.2.2.1, stays hb9 hHeld.2.2.2.2.1, stays hb9 hHeld.2.2.2.2.2.1, stays hb9 hHeld.2.2.2.2.2.2.1, stays hb9 hHeld.2.2.2.2.2.2.2.1, stays hb9 hHeld.2.2.2.2.2.2.2.2.1, stays hb9 hHeld.2.2.2.2.2.2.2.2.2.1, stays hb9 hHeld.2.2.2.2.2.2.2.2.2.2.1, stays hb9 hHeld.2.2.2.2.2.2.2.2.2.2.2.1, HC2R.out _ (Below.trans hHeld.2.2.2.2.2.2.2.2.2.2.2.2.2.2 (hb9.mono (Below.size hHeld.2.2.2.2.2.2.2.2.2.2.2.2.2.2))), HC3R.out _ (Below.trans hHeld.2.2.2.2.2.2.2.2.2.2.2.2.2.2 (hb9.mono (Below.size hHeld.2.2.2.2.2.2.2.2.2.2.2.2.2.2))), Below.trans hHeld.2.2.2.2.2.2.2.2.2.2.2.2.2.2 (hb9.mono (Below.size hHeld.2.2.2.2.2.2.2.2.2.2.2.2.2.2))⟩ (fun hHeld => ?_)
            clear hK K
            try simp only [Act.put]
            try simp only [List.setIfInBounds_toArray]
            try simp only [List.set_cons_succ]
            try simp only [List.set_cons_zero]
            refine wpAnyH_ready (rs := [39]) (by kernel_rfl) (by simp) ?_
            refine AllReadyH.cons (o := ?_) ?_ (fun K hK => ?_) AllReadyH.nil
            rotate_left
            focus (simp only [List.getElem?_toArray, List.getElem?_cons_succ, List.getElem?_cons_zero]; rfl)
            rw [if_pos (by rfl)]
            go_simp
            refine (C2.out _ hHeld.2.2.2.2.2.2.2.2.2.2.2.2.2.2).mono ?_
            rintro e w9 ⟨rfl, hb9⟩
            go_wp2_with fail
            refine hK.out _ _ ⟨stays hb9 hHeld.1, stays hb9 hHeld.2.1, stays hb9 hHeld.2.2.1, stays hb9 hHeld.2.2.2.1, stays hb9 hHeld.2.2.2.2.1, stays hb9 hHeld.2.2.2.2.2.1, stays hb9 hHeld.2.2.2.2.2.2.1, stays hb9 hHeld.2.2.2.2.2.2.2.1, stays hb9 hHeld.2.2.2.2.2.2.2.2.1, stays hb9 hHeld.2.2.2.2.2.2.2.2.2.1, stays hb9 hHeld.2.2.2.2.2.2.2.2.2.2.1, stays hb9 hHeld.2.2.2.2.2.2.2.2.2.2.2.1, HC2R.out _ (Below.trans hHeld.2.2.2.2.2.2.2.2.2.2.2.2.2.2 (hb9.mono (Below.size hHeld.2.2.2.2.2.2.2.2.2.2.2.2.2.2))), HC3R.out _ (Below.trans hHeld.2.2.2.2.2.2.2.2.2.2.2.2.2.2 (hb9.mono (Below.size hHeld.2.2.2.2.2.2.2.2.2.2.2.2.2.2))), Below.trans hHeld.2.2.2.2.2.2.2.2.2.2.2.2.2.2 (hb9.mono (Below.size hHeld.2.2.2.2.2.2.2.2.2.2.2.2.2.2))⟩ (fun hHeld => ?_)
            clear hK K
            try simp only [Act.put]
            try simp only [List.setIfInBounds_toArray]
            try simp only [List.set_cons_succ]
            try simp only [List.set_cons_zero]
            refine wpAnyH_take (i := 40) (oi := ?_) (v := ?_) ?_ (by kernel_rfl) (by kernel_rfl) (by kernel_rfl) ?_ (Or.inl ⟨?_, ?_⟩) (by assumption) ?_
            rotate_left 2
            focus (simp only [List.getElem?_toArray, List.getElem?_cons_succ, List.getElem?_cons_zero]; rfl)
            focus exact fun _ _ _ h => h
            focus rfl
            focus (intro W hS; (try dsimp only at hS); obtain ⟨x0, x1, x2, zz0, zz1, zz2, uu0, uu1, uu2, vv0, vv1, vv2, q2, q3, hbb⟩ := hS; go_simp; (try with_reducible rfl))
            try simp only [Act.put]
            try simp only [List.setIfInBounds_toArray]
            try simp only [List.set_cons_succ]
            try simp only [List.set_cons_zero]
            refine wpAnyH_take (i := 41) (oi := ?_) (v := ?_) ?_ (by kernel_rfl) (by kernel_rfl) (by kernel_rfl) ?_ (Or.inl ⟨?_, ?_⟩) (by assumption) ?_
            rotate_left 2
            focus (simp only [List.getElem?_toArray, List.getElem?_cons_succ, List.getElem?_cons_zero]; rfl)
            focus exact fun _ _ _ h => h
            focus rfl
            focus (intro W hS; (try dsimp only at hS); obtain ⟨x0, x1, x2, zz0, zz1, zz2, uu0, uu1, uu2, vv0, vv1, vv2, q2, q3, hbb⟩ := hS; go_simp; (try with_reducible rfl))
            try simp only [Act.put]
            try simp only [List.setIfInBounds_toArray]
            try simp only [List.set_cons_succ]
            try simp only [List.set_cons_zero]
            refine wpAnyH_take (i := 42) (oi := ?_) (v := ?_) ?_ (by kernel_rfl) (by kernel_rfl) (by kernel_rfl) ?_ (Or.inl ⟨?_, ?_⟩) (by assumption) ?_
            rotate_left 2
            focus (simp only [List.getElem?_toArray, List.getElem?_cons_succ, List.getElem?_cons_zero]; rfl)
            focus exact fun _ _ _ h => h
            focus rfl
            focus (intro W hS; (try dsimp only at hS); go_simp; (try with_reducible rfl))
            try simp only [Act.put]
            try simp only [List.setIfInBounds_toArray]
            try simp only [List.set_cons_succ]
            try simp only [List.set_cons_zero]
            refine wpAnyH_done (by kernel_rfl) ?_ _
            have hBW : Below wB.heap.size wB _ := hHeld.2.2.2.2.2.2.2.2.2.2.2.2.2.2
            go_wp2_with fail
            go_ret
            exact ⟨rfl, HBB.out.trans (hBW.mono HBB.out.size)⟩

  · have d1 : decide ((300 : Int) < (x.body.length : Int)) = false := by simp; omega
    have d3 : decide ((3000 : Int) < (x.body.length : Int)) = false := by simp; omega
    by_cases hm : 300 < bs.length
    · have d4 : decide ((300 : Int) < (bs.length : Int)) = true := by simp; omega
      go_wp2_with fail
      go_ret
      exact ⟨rfl, HB1.out⟩
    · have d4 : decide ((300 : Int) < (bs.length : Int)) = false := by simp; omega
      have HM := Lib.hid (show bs.length ≤ 300 by omega)
      clear hn1 hm
      have e0 : w1.cell? ⟨w.heap.size, 0, none⟩ = some (.int .u64 (x.ix : Int)) := by rw [cell_of_row _ _ 0 _ _ _ HX1.out]; rfl
      have e1 : w1.cell? ⟨w.heap.size, 1, none⟩ = some (.int .u64 (x.term : Int)) := by rw [cell_of_row _ _ 1 _ _ _ HX1.out]; rfl
      go_wp2_with fail
      refine (rec_told x a c w1 H1.out H2.out (HX.out.below HB1.out)).mono ?_
      rintro r w2 ⟨a2, c2, rfl, hr2, hc2, hc2m, hb9⟩
      have HX2 := Lib.hid ((hb9.block w.heap.size (lt_of_block HX1.out)).trans HX1.out)
      have HB2 := Lib.hid (HB1.out.trans (hb9.mono HB1.out.size))
      have HB9 := Lib.hid hb9
      clear e0 e1 e2 hb9
      have hL := outR_len H1.out H2.out HX.out.hr
      have hOK := outR_ok H1.out H2.out HX.out.hr
      have HF := Lib.hid (outR_snd x)
      obtain ⟨R, hR⟩ : ∃ R, R = outR x := ⟨_, rfl⟩
      have HRX := Lib.hid (show ∀ w' r, ToldR x w2 w' r → ∃ a' c', r = .returned (.tuple #[.slice a' R.1.length c', .int .i64 R.2]) ∧ Reads w' a' R.1 ∧ R.1.length ≤ c' ∧ c' ≤ 9223372036854775807 ∧ Below w2.heap.size w2 w' by rw [hR]; exact fun _ _ h => h)
      rw [← hR] at hr2 hc2 hL hOK HF ⊢
      clear hR
      obtain ⟨xs, f⟩ := R
      dsimp only at hr2 hc2 hL hOK HRX HF ⊢
      have HR2 := Lib.hid hr2
      have HC2 := Lib.hid hc2
      have HC2M := Lib.hid hc2m
      have HL := Lib.hid hL
      have HOK := Lib.hid hOK
      clear hr2 hc2 hc2m hL hOK
      have e0 : w2.cell? ⟨w.heap.size, 0, none⟩ = some (.int .u64 (x.ix : Int)) := by rw [cell_of_row _ _ 0 _ _ _ HX2.out]; rfl
      have e1 : w2.cell? ⟨w.heap.size, 1, none⟩ = some (.int .u64 (x.term : Int)) := by rw [cell_of_row _ _ 1 _ _ _ HX2.out]; rfl
      have e2 : w2.cell? ⟨w.heap.size, 2, none⟩ = some (.slice a x.body.length c) := by rw [cell_of_row _ _ 2 _ _ _ HX2.out]; rfl
      go_wp2_with fail
      refine (refRec_told x a c w2 H1.out H2.out (HX.out.below HB2.out)).mono ?_
      intro r w3 ht
      obtain ⟨a3, c3, rfl, hr3, -, -, hb9⟩ := HRX.out _ _ ht
      have HX3 := Lib.hid ((hb9.block w.heap.size (lt_of_block HX2.out)).trans HX2.out)
      have HB3 := Lib.hid (HB2.out.trans (hb9.mono HB2.out.size))
      have HR3 := Lib.hid hr3
      have HR23 := Lib.hid (HR2.out.below hb9)
      clear ht hr3 e0 e1 e2 hb9 HRX HR2 HB9
      go_wp2_with fail
      refine (parse_any ba bs.length bc bs w3 rfl (HB.out.below HB3.out) (by have := HM.out; omega) HBC.out HBM.out).mono ?_
      intro r w4 ht
      obtain ⟨az, cz, rfl, hz, hb9⟩ := told_of ht
      have HX4 := Lib.hid ((hb9.block w.heap.size (lt_of_block HX3.out)).trans HX3.out)
      have HB4 := Lib.hid (HB3.out.trans (hb9.mono HB3.out.size))
      have HR34 := Lib.hid (HR3.out.below hb9)
      have HR24 := Lib.hid (HR23.out.below hb9)
      clear ht hb9 HR3 HR23
      obtain ⟨P, hP⟩ : ∃ P, P = outP bs := ⟨_, rfl⟩
      have HPX := Lib.hid (show ∀ W w' r, ToldP bs W w' r → ∃ a c, r = .returned (.tuple #[.agg #[.int .u64 (P.1.ix : Int), .int .u64 (P.1.term : Int), .slice a P.1.body.length c], .int .i64 P.2]) ∧ Reads w' a P.1.body ∧ Below W.heap.size W w' by rw [hP]; exact fun _ _ _ h => h)
      rw [← hP] at hz ⊢
      clear hP
      obtain ⟨z, h⟩ := P
      dsimp only at hz HPX ⊢
      have HZ := Lib.hid hz
      clear hz
      have hs1 : Below w4.heap.size w4 (w4.alloc (.cells #[.int .u64 (z.ix : Int), .int .u64 (z.term : Int), .slice az z.body.length cz] 55)) := (Below.refl _ _).alloc (Nat.le_refl _) _
      have hzb := heap_alloc_new w4 (.cells #[.int .u64 (z.ix : Int), .int .u64 (z.term : Int), .slice az z.body.length cz] 55)
      go_wp2_with fail
      generalize w4.alloc (.cells #[.int .u64 (z.ix : Int), .int .u64 (z.term : Int), .slice az z.body.length cz] 55) = w5 at *
      have HZB := Lib.hid hzb
      have HS1 := Lib.hid hs1
      have HB5 := Lib.hid (HB4.out.trans (hs1.mono HB4.out.size))
      clear hzb hs1
      refine (refParse_any ba bs.length bc bs w5 rfl (HB.out.below HB5.out) (by have := HM.out; omega) HBC.out HBM.out).mono ?_
      intro r w6 ht
      obtain ⟨au, cu, rfl, hu, hs2⟩ := HPX.out _ _ _ (told_of ht)
      have HU := Lib.hid hu
      have HS2 := Lib.hid hs2
      have HB6 := Lib.hid (HB5.out.trans (hs2.mono HB5.out.size))
      clear ht hu hs2 HPX
      have hs3 : Below w6.heap.size w6 (w6.alloc (.cells #[.int .u64 (z.ix : Int), .int .u64 (z.term : Int), .slice au z.body.length cu] 55)) := (Below.refl _ _).alloc (Nat.le_refl _) _
      have hub := heap_alloc_new w6 (.cells #[.int .u64 (z.ix : Int), .int .u64 (z.term : Int), .slice au z.body.length cu] 55)
      go_wp2_with fail
      generalize w6.alloc (.cells #[.int .u64 (z.ix : Int), .int .u64 (z.term : Int), .slice au z.body.length cu] 55) = w7 at *
      have HUB := Lib.hid hub
      have HS3 := Lib.hid hs3
      have HB7 := Lib.hid (HB6.out.trans (hs3.mono HB6.out.size))
      have H47 := Lib.hid (show Below w4.heap.size w4 w7 from (HS1.out.trans (HS2.out.mono HS1.out.size)).trans (hs3.mono (Nat.le_trans HS1.out.size HS2.out.size)))
      clear hub hs3
      refine (parse_any a2 xs.length c2 xs w7 rfl (HR24.out.below H47.out) (by have := HL.out; omega) HC2.out HC2M.out).mono ?_
      intro r w8 ht
      obtain ⟨av, cv, rfl, hv, hs4⟩ := told_of ht
      obtain ⟨P2, hP2⟩ : ∃ P2, P2 = outP xs := ⟨_, rfl⟩
      have hok := HOK.out
      rw [← hP2] at hv hok ⊢
      clear hP2 ht
      obtain ⟨v, j⟩ := P2
      dsimp only at hv hok ⊢
      have HV := Lib.hid hv
      have HS4 := Lib.hid hs4
      have HOK2 := Lib.hid hok
      have HB8 := Lib.hid (HB7.out.trans (hs4.mono HB7.out.size))
      clear hv hs4 hok HOK
      have hs5 : Below w8.heap.size w8 (w8.alloc (.cells #[.int .u64 (v.ix : Int), .int .u64 (v.term : Int), .slice av v.body.length cv] 55)) := (Below.refl _ _).alloc (Nat.le_refl _) _
      have hvb := heap_alloc_new w8 (.cells #[.int .u64 (v.ix : Int), .int .u64 (v.term : Int), .slice av v.body.length cv] 55)
      have hs6 : ∀ W : World, Below W.heap.size W (W.alloc (.cells #[.pointer none] 61)) := fun W => (Below.refl _ _).alloc (Nat.le_refl _) _
      have hwb : ∀ W : World, W.heap.size = w8.heap.size + 1 → (W.alloc (.cells #[.pointer none] 61)).cell? ⟨w8.heap.size + 1, 0, none⟩ = some (.pointer none) := fun W hW => by rw [← hW, cell_of_row _ _ 0 _ _ _ (heap_alloc_new W _)]; rfl
      have hwb := hwb (w8.alloc (.cells #[.int .u64 (v.ix : Int), .int .u64 (v.term : Int), .slice av v.body.length cv] 55)) (by simp)
      go_wp2_with fail
      generalize w8.alloc (.cells #[.int .u64 (v.ix : Int), .int .u64 (v.term : Int), .slice av v.body.length cv] 55) = w9 at *
      have hs6 := hs6 w9
      generalize w9.alloc (.cells #[.pointer none] 61) = wA at *
      have HVB := Lib.hid hvb
      have HS5 := Lib.hid hs5
      have HS6 := Lib.hid hs6
      have HWB := Lib.hid hwb
      have HB9 := Lib.hid (HB8.out.trans (hs5.mono HB8.out.size))
      have HBA := Lib.hid (HB9.out.trans (hs6.mono HB9.out.size))
      clear hvb hs5 hs6 hwb
      refine (open_nil wA).mono ?_
      rintro r wB ⟨rfl, rfl⟩
      go_wp2_with fail
      refine (append_nil _ wA).mono ?_
      rintro r wB ⟨rfl, rfl⟩
      go_wp2_with fail
      refine (sync_zero (w8.heap.size + 1) wA HWB.out).mono ?_
      rintro r wB ⟨rfl, rfl⟩
      go_wp2_with fail
      refine (compact_nil _ wA).mono ?_
      rintro r wB ⟨rfl, rfl⟩
      go_wp2_with fail
      refine (entries_zero w.heap.size (w8.heap.size + 1) wA (HT.out.below HBA.out) HBA.out.size HWB.out).mono ?_
      rintro r wB ⟨⟨aq, cq, rfl⟩, hs7⟩
      have HBB := Lib.hid (HBA.out.trans (hs7.mono HBA.out.size))
      have T6 := HS6.out.trans (hs7.mono HS6.out.size)
      have T5 := HS5.out.trans (T6.mono HS5.out.size)
      have T4 := HS4.out.trans (T5.mono HS4.out.size)
      have T3 := HS3.out.trans (T4.mono HS3.out.size)
      have T2 := HS2.out.trans (T3.mono HS2.out.size)
      have T1 := HS1.out.trans (T2.mono HS1.out.size)
      have hxw := (T1.block w.heap.size (lt_of_block HX4.out)).trans HX4.out
      have hzw := (T2.block _ (lt_of_block HZB.out)).trans HZB.out
      have huw := (T4.block _ (lt_of_block HUB.out)).trans HUB.out
      have hvw := (T6.block _ (lt_of_block HVB.out)).trans HVB.out
      have HTX := Lib.hid (HX.out.below (HB4.out.trans (T1.mono HB4.out.size)))
      have HTZ := Lib.hid (HZ.out.below T1)
      have HTU := Lib.hid (HU.out.below T3)
      have HTV := Lib.hid (HV.out.below T5)
      have hcv2 := fun (W : World) (hW : Below wB.heap.size wB W) => ((HR24.out.below T1).below hW).text xs.length c2 rfl
      have hcv3 := fun (W : World) (hW : Below wB.heap.size wB W) => ((HR34.out.below T1).below hW).text xs.length c3 rfl
      have HSE := Lib.hid (sameE_iff (x := z) (y := z) |>.2 rfl)
      have HSX := Lib.hid (sameE_iff (x := x) (y := x) |>.2 rfl)
      have e0 : wB.cell? ⟨w.heap.size, 0, none⟩ = some (.int .u64 (x.ix : Int)) := by rw [cell_of_row _ _ 0 _ _ _ hxw]; rfl
      have e1 : wB.cell? ⟨w.heap.size, 1, none⟩ = some (.int .u64 (x.term : Int)) := by rw [cell_of_row _ _ 1 _ _ _ hxw]; rfl
      have e2 : wB.cell? ⟨w.heap.size, 2, none⟩ = some (.slice a x.body.length c) := by rw [cell_of_row _ _ 2 _ _ _ hxw]; rfl
      have z0 : wB.cell? ⟨w4.heap.size, 0, none⟩ = some (.int .u64 (z.ix : Int)) := by rw [cell_of_row _ _ 0 _ _ _ hzw]; rfl
      have z1 : wB.cell? ⟨w4.heap.size, 1, none⟩ = some (.int .u64 (z.term : Int)) := by rw [cell_of_row _ _ 1 _ _ _ hzw]; rfl
      have z2 : wB.cell? ⟨w4.heap.size, 2, none⟩ = some (.slice az z.body.length cz) := by rw [cell_of_row _ _ 2 _ _ _ hzw]; rfl
      have u0 : wB.cell? ⟨w6.heap.size, 0, none⟩ = some (.int .u64 (z.ix : Int)) := by rw [cell_of_row _ _ 0 _ _ _ huw]; rfl
      have u1 : wB.cell? ⟨w6.heap.size, 1, none⟩ = some (.int .u64 (z.term : Int)) := by rw [cell_of_row _ _ 1 _ _ _ huw]; rfl
      have u2 : wB.cell? ⟨w6.heap.size, 2, none⟩ = some (.slice au z.body.length cu) := by rw [cell_of_row _ _ 2 _ _ _ huw]; rfl
      have v0 : wB.cell? ⟨w8.heap.size, 0, none⟩ = some (.int .u64 (v.ix : Int)) := by rw [cell_of_row _ _ 0 _ _ _ hvw]; rfl
      have v1 : wB.cell? ⟨w8.heap.size, 1, none⟩ = some (.int .u64 (v.term : Int)) := by rw [cell_of_row _ _ 1 _ _ _ hvw]; rfl
      have v2 : wB.cell? ⟨w8.heap.size, 2, none⟩ = some (.slice av v.body.length cv) := by rw [cell_of_row _ _ 2 _ _ _ hvw]; rfl
      clear T6 T5 T4 T3 T2 T1 hxw hzw huw hvw hs7 HX4 HZB HUB HVB HX HZ HU HV HR24 HR34 HS1 HS2 HS3 HS4 HS5 HS6 HWB H47 HB1 HB2 HB3 HB4 HB5 HB6 HB7 HB8 HB9 HBA
      generalize strOfNums xs = SX at *
      rcases HF.out with hf0 | hf0 | hf0
      · subst hf0
        obtain ⟨rfl, rfl⟩ : v = x ∧ j = 0 := by
          have := HOK2.out rfl
          simpa using this
        have HC2R := Lib.hid hcv2
        have HC3R := Lib.hid hcv3
        clear hcv2 hcv3
        have c1 := fun (W : World) (hW : Below wB.heap.size wB W) => refSame_ent z z az au cz cu W (HTZ.out.below hW) (HTU.out.below hW)
        have c2' := fun (W : World) (hW : Below wB.heap.size wB W) => refSame_ent z v az a cz c W (HTZ.out.below hW) (HTX.out.below hW)
        have c3' := fun (W : World) (hW : Below wB.heap.size wB W) => same_ent z v az a cz c W (HTZ.out.below hW) (HTX.out.below hW)
        have c4' := fun (W : World) (hW : Below wB.heap.size wB W) => same_ent v v av a cv c W (HTV.out.below hW) (HTX.out.below hW)
        rw [HSE.out] at c1
        rw [HSX.out] at c4'
        generalize sameE z v = q at c2' c3'
        have C1 := Lib.hid c1
        have C2 := Lib.hid c2'
        have C3 := Lib.hid c3'
        have C4 := Lib.hid c4'
        clear c1 c2' c3' c4'
        go_wp2_with fail
        go_region_held3 (fun W => W.cell? ⟨w.heap.size, 0, none⟩ = some (.int .u64 (v.ix : Int)) ∧ W.cell? ⟨w.heap.size, 1, none⟩ = some (.int .u64 (v.term : Int)) ∧ W.cell? ⟨w.heap.size, 2, none⟩ = some (.slice a v.body.length c) ∧
            W.cell? ⟨w4.heap.size, 0, none⟩ = some (.int .u64 (z.ix : Int)) ∧ W.cell? ⟨w4.heap.size, 1, none⟩ = some (.int .u64 (z.term : Int)) ∧ W.cell? ⟨w4.heap.size, 2, none⟩ = some (.slice az z.body.length cz) ∧
            W.cell? ⟨w6.heap.size, 0, none⟩ = some (.int .u64 (z.ix : Int)) ∧ W.cell? ⟨w6.heap.size, 1, none⟩ = some (.int .u64 (z.term : Int)) ∧ W.cell? ⟨w6.heap.size, 2, none⟩ = some (.slice au z.body.length cu) ∧
            W.cell? ⟨w8.heap.size, 0, none⟩ = some (.int .u64 (v.ix : Int)) ∧ W.cell? ⟨w8.heap.size, 1, none⟩ = some (.int .u64 (v.term : Int)) ∧ W.cell? ⟨w8.heap.size, 2, none⟩ = some (.slice av v.body.length cv) ∧
            (convert 39 9 (.slice a2 xs.length c2)).run Tryz.prog W = .ok (.string SX) W ∧ (convert 39 9 (.slice a3 xs.length c3)).run Tryz.prog W = .ok (.string SX) W ∧ Below wB.heap.size wB W)
          (first
            | exact ⟨e0, e1, e2, z0, z1, z2, u0, u1, u2, v0, v1, v2, HC2R.out _ (Below.refl _ _).drew, HC3R.out _ (Below.refl _ _).drew, (Below.refl _ _).drew⟩
            | go_keep
            | (go_split_ands; exact ⟨stays hb9 (by assumption), stays hb9 (by assumption), stays hb9 (by assumption), stays hb9 (by assumption), stays hb9 (by assumption), stays hb9 (by assumption), stays hb9 (by assumption), stays hb9 (by assumption), stays hb9 (by assumption), stays hb9 (by assumption), stays hb9 (by assumption), stays hb9 (by assumption), HC2R.out _ (Below.trans (by assumption) (hb9.mono (Below.size (by assumption)))), HC3R.out _ (Below.trans (by assumption) (hb9.mono (Below.size (by assumption)))), Below.trans (by assumption) (hb9.mono (Below.size (by assumption)))⟩))
          (first
            | (go_at_call 31; (try go_split_ands); with_reducible refine (C1.out _ (by assumption)).mono ?_; rintro e w9 ⟨rfl, hb9⟩)
            | (go_at_call 31; (try go_split_ands); with_reducible refine (C2.out _ (by assumption)).mono ?_; rintro e w9 ⟨rfl, hb9⟩)
            | (go_at_call 32; (try go_split_ands); with_reducible refine (C3.out _ (by assumption)).mono ?_; rintro e w9 ⟨rfl, hb9⟩)
            | (go_at_call 32; (try go_split_ands); with_reducible refine (C4.out _ (by assumption)).mono ?_; rintro e w9 ⟨rfl, hb9⟩))
        rename_i hHeld
        have hBW : Below wB.heap.size wB _ := (hHeld.2.2.2.2.2.2.2.2.2.2.2.2.2.2)
        go_wp2_with fail
        go_ret
        exact ⟨rfl, HBB.out.trans (hBW.mono HBB.out.size)⟩
      · subst hf0
        have HC2R := Lib.hid hcv2
        have HC3R := Lib.hid hcv3
        clear hcv2 hcv3
        have c1 := fun (W : World) (hW : Below wB.heap.size wB W) => refSame_ent z z az au cz cu W (HTZ.out.below hW) (HTU.out.below hW)
        have c2' := fun (W : World) (hW : Below wB.heap.size wB W) => refSame_ent z x az a cz c W (HTZ.out.below hW) (HTX.out.below hW)
        have c3' := fun (W : World) (hW : Below wB.heap.size wB W) => same_ent z x az a cz c W (HTZ.out.below hW) (HTX.out.below hW)
        have c4' := fun (W : World) (hW : Below wB.heap.size wB W) => same_ent v x av a cv c W (HTV.out.below hW) (HTX.out.below hW)
        rw [HSE.out] at c1
        generalize sameE z x = q at c2' c3'
        have C1 := Lib.hid c1
        have C2 := Lib.hid c2'
        have C3 := Lib.hid c3'
        have _C4 := Lib.hid c4'
        clear c1 c2' c3' c4'
        go_wp2_with fail
        refine wp_region_held_drew (S := (fun W => W.cell? ⟨w.heap.size, 0, none⟩ = some (.int .u64 (x.ix : Int)) ∧ W.cell? ⟨w.heap.size, 1, none⟩ = some (.int .u64 (x.term : Int)) ∧ W.cell? ⟨w.heap.size, 2, none⟩ = some (.slice a x.body.length c) ∧ W.cell? ⟨w4.heap.size, 0, none⟩ = some (.int .u64 (z.ix : Int)) ∧ W.cell? ⟨w4.heap.size, 1, none⟩ = some (.int .u64 (z.term : Int)) ∧ W.cell? ⟨w4.heap.size, 2, none⟩ = some (.slice az z.body.length cz) ∧ W.cell? ⟨w6.heap.size, 0, none⟩ = some (.int .u64 (z.ix : Int)) ∧ W.cell? ⟨w6.heap.size, 1, none⟩ = some (.int .u64 (z.term : Int)) ∧ W.cell? ⟨w6.heap.size, 2, none⟩ = some (.slice au z.body.length cu) ∧ W.cell? ⟨w8.heap.size, 0, none⟩ = some (.int .u64 (v.ix : Int)) ∧ W.cell? ⟨w8.heap.size, 1, none⟩ = some (.int .u64 (v.term : Int)) ∧ W.cell? ⟨w8.heap.size, 2, none⟩ = some (.slice av v.body.length cv) ∧ (convert 39 9 (.slice a2 xs.length c2)).run Tryz.prog W = .ok (.string SX) W ∧ (convert 39 9 (.slice a3 xs.length c3)).run Tryz.prog W = .ok (.string SX) W ∧ Below wB.heap.size wB W)) (by kernel_rfl) ⟨e0, e1, e2, z0, z1, z2, u0, u1, u2, v0, v1, v2, HC2R.out _ (Below.refl _ _).drew, HC3R.out _ (Below.refl _ _).drew, (Below.refl _ _).drew⟩ (fun hHeld => ?_)
        refine wpAnyH_take (i := 0) (oi := ?_) (v := ?_) ?_ (by kernel_rfl) (by kernel_rfl) (by kernel_rfl) ?_ (Or.inl ⟨?_, ?_⟩) (by assumption) ?_
        rotate_left 2
        focus (simp only [List.getElem?_toArray, List.getElem?_cons_zero]; rfl)
        focus exact fun _ _ _ h => h
        focus rfl
        focus (intro W hS; (try dsimp only at hS); obtain ⟨x0, x1, x2, zz0, zz1, zz2, uu0, uu1, uu2, vv0, vv1, vv2, q2, q3, hbb⟩ := hS; go_simp; (try with_reducible rfl))
        try simp only [Act.put]
        try simp only [List.setIfInBounds_toArray]
        try simp only [List.set_cons_succ]
        try simp only [List.set_cons_zero]
        refine wpAnyH_take (i := 1) (oi := ?_) (v := ?_) ?_ (by kernel_rfl) (by kernel_rfl) (by kernel_rfl) ?_ (Or.inl ⟨?_, ?_⟩) (by assumption) ?_
        rotate_left 2
        focus (simp only [List.getElem?_toArray, List.getElem?_cons_succ, List.getElem?_cons_zero]; rfl)
        focus exact fun _ _ _ h => h
        focus rfl
        focus (intro W hS; (try dsimp only at hS); obtain ⟨x0, x1, x2, zz0, zz1, zz2, uu0, uu1, uu2, vv0, vv1, vv2, q2, q3, hbb⟩ := hS; go_simp; (try with_reducible rfl))
        try simp only [Act.put]
        try simp only [List.setIfInBounds_toArray]
        try simp only [List.set_cons_succ]
        try simp only [List.set_cons_zero]
        refine wpAnyH_take (i := 2) (oi := ?_) (v := ?_) ?_ (by kernel_rfl) (by kernel_rfl) (by kernel_rfl) ?_ (Or.inl ⟨?_, ?_⟩) (by assumption) ?_
        rotate_left 2
        focus (simp only [List.getElem?_toArray, List.getElem?_cons_succ, List.getElem?_cons_zero]; rfl)
        focus exact fun _ _ _ h => h
        focus rfl
        focus (intro W hS; (try dsimp only at hS); obtain ⟨x0, x1, x2, zz0, zz1, zz2, uu0, uu1, uu2, vv0, vv1, vv2, q2, q3, hbb⟩ := hS; go_simp; (try with_reducible rfl))
        try simp only [Act.put]
        try simp only [List.setIfInBounds_toArray]
        try simp only [List.set_cons_succ]
        try simp only [List.set_cons_zero]
        refine wpAnyH_take (i := 3) (oi := ?_) (v := ?_) ?_ (by kernel_rfl) (by kernel_rfl) (by kernel_rfl) ?_ (Or.inl ⟨?_, ?_⟩) (by assumption) ?_
        rotate_left 2
        focus (simp only [List.getElem?_toArray, List.getElem?_cons_succ, List.getElem?_cons_zero]; rfl)
        focus exact fun _ _ _ h => h
        focus rfl
        focus (intro W hS; (try dsimp only at hS); obtain ⟨x0, x1, x2, zz0, zz1, zz2, uu0, uu1, uu2, vv0, vv1, vv2, q2, q3, hbb⟩ := hS; go_simp; (try with_reducible rfl))
        try simp only [Act.put]
        try simp only [List.setIfInBounds_toArray]
        try simp only [List.set_cons_succ]
        try simp only [List.set_cons_zero]
        refine wpAnyH_take (i := 4) (oi := ?_) (v := ?_) ?_ (by kernel_rfl) (by kernel_rfl) (by kernel_rfl) ?_ (Or.inl ⟨?_, ?_⟩) (by assumption) ?_
        rotate_left 2
        focus (simp only [List.getElem?_toArray, List.getElem?_cons_succ, List.getElem?_cons_zero]; rfl)
        focus exact fun _ _ _ h => h
        focus rfl
        focus (intro W hS; (try dsimp only at hS); obtain ⟨x0, x1, x2, zz0, zz1, zz2, uu0, uu1, uu2, vv0, vv1, vv2, q2, q3, hbb⟩ := hS; go_simp; (try with_reducible rfl))
        try simp only [Act.put]
        try simp only [List.setIfInBounds_toArray]
        try simp only [List.set_cons_succ]
        try simp only [List.set_cons_zero]
        refine wpAnyH_take (i := 5) (oi := ?_) (v := ?_) ?_ (by kernel_rfl) (by kernel_rfl) (by kernel_rfl) ?_ (Or.inl ⟨?_, ?_⟩) (by assumption) ?_
        rotate_left 2
        focus (simp only [List.getElem?_toArray, List.getElem?_cons_succ, List.getElem?_cons_zero]; rfl)
        focus exact fun _ _ _ h => h
        focus rfl
        focus (intro W hS; (try dsimp only at hS); obtain ⟨x0, x1, x2, zz0, zz1, zz2, uu0, uu1, uu2, vv0, vv1, vv2, q2, q3, hbb⟩ := hS; go_simp; (try with_reducible rfl))
        try simp only [Act.put]
        try simp only [List.setIfInBounds_toArray]
        try simp only [List.set_cons_succ]
        try simp only [List.set_cons_zero]
        refine wpAnyH_take (i := 6) (oi := ?_) (v := ?_) ?_ (by kernel_rfl) (by kernel_rfl) (by kernel_rfl) ?_ (Or.inl ⟨?_, ?_⟩) (by assumption) ?_
        rotate_left 2
        focus (simp only [List.getElem?_toArray, List.getElem?_cons_succ, List.getElem?_cons_zero]; rfl)
        focus exact fun _ _ _ h => h
        focus rfl
        focus (intro W hS; (try dsimp only at hS); obtain ⟨x0, x1, x2, zz0, zz1, zz2, uu0, uu1, uu2, vv0, vv1, vv2, q2, q3, hbb⟩ := hS; go_simp; (try with_reducible rfl))
        try simp only [Act.put]
        try simp only [List.setIfInBounds_toArray]
        try simp only [List.set_cons_succ]
        try simp only [List.set_cons_zero]
        refine wpAnyH_take (i := 7) (oi := ?_) (v := ?_) ?_ (by kernel_rfl) (by kernel_rfl) (by kernel_rfl) ?_ (Or.inl ⟨?_, ?_⟩) (by assumption) ?_
        rotate_left 2
        focus (simp only [List.getElem?_toArray, List.getElem?_cons_succ, List.getElem?_cons_zero]; rfl)
        focus exact fun _ _ _ h => h
        focus rfl
        focus (intro W hS; (try dsimp only at hS); obtain ⟨x0, x1, x2, zz0, zz1, zz2, uu0, uu1, uu2, vv0, vv1, vv2, q2, q3, hbb⟩ := hS; go_simp; (try with_reducible rfl))
        try simp only [Act.put]
        try simp only [List.setIfInBounds_toArray]
        try simp only [List.set_cons_succ]
        try simp only [List.set_cons_zero]
        refine wpAnyH_take (i := 8) (oi := ?_) (v := ?_) ?_ (by kernel_rfl) (by kernel_rfl) (by kernel_rfl) ?_ (Or.inl ⟨?_, ?_⟩) (by assumption) ?_
        rotate_left 2
        focus (simp only [List.getElem?_toArray, List.getElem?_cons_succ, List.getElem?_cons_zero]; rfl)
        focus exact fun _ _ _ h => h
        focus rfl
        focus (intro W hS; (try dsimp only at hS); obtain ⟨x0, x1, x2, zz0, zz1, zz2, uu0, uu1, uu2, vv0, vv1, vv2, q2, q3, hbb⟩ := hS; go_simp; (try with_reducible rfl))
        try simp only [Act.put]
        try simp only [List.setIfInBounds_toArray]
        try simp only [List.set_cons_succ]
        try simp only [List.set_cons_zero]
        refine wpAnyH_take (i := 9) (oi := ?_) (v := ?_) ?_ (by kernel_rfl) (by kernel_rfl) (by kernel_rfl) ?_ (Or.inl ⟨?_, ?_⟩) (by assumption) ?_
        rotate_left 2
        focus (simp only [List.getElem?_toArray, List.getElem?_cons_succ, List.getElem?_cons_zero]; rfl)
        focus exact fun _ _ _ h => h
        focus rfl
        focus (intro W hS; (try dsimp only at hS); obtain ⟨x0, x1, x2, zz0, zz1, zz2, uu0, uu1, uu2, vv0, vv1, vv2, q2, q3, hbb⟩ := hS; go_simp; (try with_reducible rfl))
        try simp only [Act.put]
        try simp only [List.setIfInBounds_toArray]
        try simp only [List.set_cons_succ]
        try simp only [List.set_cons_zero]
        refine wpAnyH_take (i := 10) (oi := ?_) (v := ?_) ?_ (by kernel_rfl) (by kernel_rfl) (by kernel_rfl) ?_ (Or.inl ⟨?_, ?_⟩) (by assumption) ?_
        rotate_left 2
        focus (simp only [List.getElem?_toArray, List.getElem?_cons_succ, List.getElem?_cons_zero]; rfl)
        focus exact fun _ _ _ h => h
        focus rfl
        focus (intro W hS; (try dsimp only at hS); obtain ⟨x0, x1, x2, zz0, zz1, zz2, uu0, uu1, uu2, vv0, vv1, vv2, q2, q3, hbb⟩ := hS; go_simp; (try with_reducible rfl))
        try simp only [Act.put]
        try simp only [List.setIfInBounds_toArray]
        try simp only [List.set_cons_succ]
        try simp only [List.set_cons_zero]
        refine wpAnyH_take (i := 11) (oi := ?_) (v := ?_) ?_ (by kernel_rfl) (by kernel_rfl) (by kernel_rfl) ?_ (Or.inl ⟨?_, ?_⟩) (by assumption) ?_
        rotate_left 2
        focus (simp only [List.getElem?_toArray, List.getElem?_cons_succ, List.getElem?_cons_zero]; rfl)
        focus exact fun _ _ _ h => h
        focus rfl
        focus (intro W hS; (try dsimp only at hS); obtain ⟨x0, x1, x2, zz0, zz1, zz2, uu0, uu1, uu2, vv0, vv1, vv2, q2, q3, hbb⟩ := hS; go_simp; (try with_reducible rfl))
        try simp only [Act.put]
        try simp only [List.setIfInBounds_toArray]
        try simp only [List.set_cons_succ]
        try simp only [List.set_cons_zero]
        refine wpAnyH_take (i := 12) (oi := ?_) (v := ?_) ?_ (by kernel_rfl) (by kernel_rfl) (by kernel_rfl) ?_ (Or.inl ⟨?_, ?_⟩) (by assumption) ?_
        rotate_left 2
        focus (simp only [List.getElem?_toArray, List.getElem?_cons_succ, List.getElem?_cons_zero]; rfl)
        focus exact fun _ _ _ h => h
        focus rfl
        focus (intro W hS; (try dsimp only at hS); obtain ⟨x0, x1, x2, zz0, zz1, zz2, uu0, uu1, uu2, vv0, vv1, vv2, q2, q3, hbb⟩ := hS; go_simp; (try with_reducible rfl))
        try simp only [Act.put]
        try simp only [List.setIfInBounds_toArray]
        try simp only [List.set_cons_succ]
        try simp only [List.set_cons_zero]
        refine wpAnyH_ready (rs := [13]) (by kernel_rfl) (by simp) ?_
        refine AllReadyH.cons (o := ?_) ?_ (fun K hK => ?_) AllReadyH.nil
        rotate_left
        focus (simp only [List.getElem?_toArray, List.getElem?_cons_succ, List.getElem?_cons_zero]; rfl)
        rw [if_pos (by rfl)]
        go_simp
        refine (C1.out _ hHeld.2.2.2.2.2.2.2.2.2.2.2.2.2.2).mono ?_
        rintro e w9 ⟨rfl, hb9⟩
        go_wp2_with fail
        refine hK.out _ _ ⟨stays hb9 hHeld.1, stays hb9 hHeld.2.1, stays hb9 hHeld.2.2.1, stays hb9 hHeld.2.2.2.1, stays hb9 hHeld.2.2.2.2.1, stays hb9 hHeld.2.2.2.2.2.1, stays hb9 hHeld.2.2.2.2.2.2.1, stays hb9 hHeld.2.2.2.2.2.2.2.1, stays hb9 hHeld.2.2.2.2.2.2.2.2.1, stays hb9 hHeld.2.2.2.2.2.2.2.2.2.1, stays hb9 hHeld.2.2.2.2.2.2.2.2.2.2.1, stays hb9 hHeld.2.2.2.2.2.2.2.2.2.2.2.1, HC2R.out _ (Below.trans hHeld.2.2.2.2.2.2.2.2.2.2.2.2.2.2 (hb9.mono (Below.size hHeld.2.2.2.2.2.2.2.2.2.2.2.2.2.2))), HC3R.out _ (Below.trans hHeld.2.2.2.2.2.2.2.2.2.2.2.2.2.2 (hb9.mono (Below.size hHeld.2.2.2.2.2.2.2.2.2.2.2.2.2.2))), Below.trans hHeld.2.2.2.2.2.2.2.2.2.2.2.2.2.2 (hb9.mono (Below.size hHeld.2.2.2.2.2.2.2.2.2.2.2.2.2.2))⟩ (fun hHeld => ?_)
        clear hK K
        try simp only [Act.put]
        try simp only [List.setIfInBounds_toArray]
        try simp only [List.set_cons_succ]
        try simp only [List.set_cons_zero]
        refine wpAnyH_take (i := 14) (oi := ?_) (v := ?_) ?_ (by kernel_rfl) (by kernel_rfl) (by kernel_rfl) ?_ (Or.inl ⟨?_, ?_⟩) (by assumption) ?_
        rotate_left 2
        focus (simp only [List.getElem?_toArray, List.getElem?_cons_succ, List.getElem?_cons_zero]; rfl)
        focus exact fun _ _ _ h => h
        focus rfl
        focus (intro W hS; (try dsimp only at hS); obtain ⟨x0, x1, x2, zz0, zz1, zz2, uu0, uu1, uu2, vv0, vv1, vv2, q2, q3, hbb⟩ := hS; go_simp; (try with_reducible rfl))
        try simp only [Act.put]
        try simp only [List.setIfInBounds_toArray]
        try simp only [List.set_cons_succ]
        try simp only [List.set_cons_zero]
        refine wpAnyH_take (i := 15) (oi := ?_) (v := ?_) ?_ (by kernel_rfl) (by kernel_rfl) (by kernel_rfl) ?_ (Or.inl ⟨?_, ?_⟩) (by assumption) ?_
        rotate_left 2
        focus (simp only [List.getElem?_toArray, List.getElem?_cons_succ, List.getElem?_cons_zero]; rfl)
        focus exact fun _ _ _ h => h
        focus rfl
        focus (intro W hS; (try dsimp only at hS); obtain ⟨x0, x1, x2, zz0, zz1, zz2, uu0, uu1, uu2, vv0, vv1, vv2, q2, q3, hbb⟩ := hS; go_simp; (try with_reducible rfl))
        try simp only [Act.put]
        try simp only [List.setIfInBounds_toArray]
        try simp only [List.set_cons_succ]
        try simp only [List.set_cons_zero]
        refine wpAnyH_take (i := 16) (oi := ?_) (v := ?_) ?_ (by kernel_rfl) (by kernel_rfl) (by kernel_rfl) ?_ (Or.inl ⟨?_, ?_⟩) (by assumption) ?_
        rotate_left 2
        focus (simp only [List.getElem?_toArray, List.getElem?_cons_succ, List.getElem?_cons_zero]; rfl)
        focus exact fun _ _ _ h => h
        focus rfl
        focus (intro W hS; (try dsimp only at hS); obtain ⟨x0, x1, x2, zz0, zz1, zz2, uu0, uu1, uu2, vv0, vv1, vv2, q2, q3, hbb⟩ := hS; go_simp; (try with_reducible rfl))
        try simp only [Act.put]
        try simp only [List.setIfInBounds_toArray]
        try simp only [List.set_cons_succ]
        try simp only [List.set_cons_zero]
        refine wpAnyH_take (i := 17) (oi := ?_) (v := ?_) ?_ (by kernel_rfl) (by kernel_rfl) (by kernel_rfl) ?_ (Or.inl ⟨?_, ?_⟩) (by assumption) ?_
        rotate_left 2
        focus (simp only [List.getElem?_toArray, List.getElem?_cons_succ, List.getElem?_cons_zero]; rfl)
        focus exact fun _ _ _ h => h
        focus rfl
        focus (intro W hS; (try dsimp only at hS); obtain ⟨x0, x1, x2, zz0, zz1, zz2, uu0, uu1, uu2, vv0, vv1, vv2, q2, q3, hbb⟩ := hS; go_simp; (try with_reducible rfl))
        try simp only [Act.put]
        try simp only [List.setIfInBounds_toArray]
        try simp only [List.set_cons_succ]
        try simp only [List.set_cons_zero]
        refine wpAnyH_take (i := 18) (oi := ?_) (v := ?_) ?_ (by kernel_rfl) (by kernel_rfl) (by kernel_rfl) ?_ (Or.inl ⟨?_, ?_⟩) (by assumption) ?_
        rotate_left 2
        focus (simp only [List.getElem?_toArray, List.getElem?_cons_succ, List.getElem?_cons_zero]; rfl)
        focus exact fun _ _ _ h => h
        focus rfl
        focus (intro W hS; (try dsimp only at hS); obtain ⟨x0, x1, x2, zz0, zz1, zz2, uu0, uu1, uu2, vv0, vv1, vv2, q2, q3, hbb⟩ := hS; go_simp; (try with_reducible rfl))
        try simp only [Act.put]
        try simp only [List.setIfInBounds_toArray]
        try simp only [List.set_cons_succ]
        try simp only [List.set_cons_zero]
        refine wpAnyH_take (i := 19) (oi := ?_) (v := ?_) ?_ (by kernel_rfl) (by kernel_rfl) (by kernel_rfl) ?_ (Or.inl ⟨?_, ?_⟩) (by assumption) ?_
        rotate_left 2
        focus (simp only [List.getElem?_toArray, List.getElem?_cons_succ, List.getElem?_cons_zero]; rfl)
        focus exact fun _ _ _ h => h
        focus rfl
        focus (intro W hS; (try dsimp only at hS); obtain ⟨x0, x1, x2, zz0, zz1, zz2, uu0, uu1, uu2, vv0, vv1, vv2, q2, q3, hbb⟩ := hS; go_simp; (try with_reducible rfl))
        try simp only [Act.put]
        try simp only [List.setIfInBounds_toArray]
        try simp only [List.set_cons_succ]
        try simp only [List.set_cons_zero]
        refine wpAnyH_take (i := 20) (oi := ?_) (v := ?_) ?_ (by kernel_rfl) (by kernel_rfl) (by kernel_rfl) ?_ (Or.inl ⟨?_, ?_⟩) (by assumption) ?_
        rotate_left 2
        focus (simp only [List.getElem?_toArray, List.getElem?_cons_succ, List.getElem?_cons_zero]; rfl)
        focus exact fun _ _ _ h => h
        focus rfl
        focus (intro W hS; (try dsimp only at hS); obtain ⟨x0, x1, x2, zz0, zz1, zz2, uu0, uu1, uu2, vv0, vv1, vv2, q2, q3, hbb⟩ := hS; go_simp; (try with_reducible rfl))
        try simp only [Act.put]
        try simp only [List.setIfInBounds_toArray]
        try simp only [List.set_cons_succ]
        try simp only [List.set_cons_zero]
        refine wpAnyH_take (i := 21) (oi := ?_) (v := ?_) ?_ (by kernel_rfl) (by kernel_rfl) (by kernel_rfl) ?_ (Or.inl ⟨?_, ?_⟩) (by assumption) ?_
        rotate_left 2
        focus (simp only [List.getElem?_toArray, List.getElem?_cons_succ, List.getElem?_cons_zero]; rfl)
        focus exact fun _ _ _ h => h
        focus rfl
        focus (intro W hS; (try dsimp only at hS); obtain ⟨x0, x1, x2, zz0, zz1, zz2, uu0, uu1, uu2, vv0, vv1, vv2, q2, q3, hbb⟩ := hS; go_simp; (try with_reducible rfl))
        try simp only [Act.put]
        try simp only [List.setIfInBounds_toArray]
        try simp only [List.set_cons_succ]
        try simp only [List.set_cons_zero]
        refine wpAnyH_take (i := 22) (oi := ?_) (v := ?_) ?_ (by kernel_rfl) (by kernel_rfl) (by kernel_rfl) ?_ (Or.inl ⟨?_, ?_⟩) (by assumption) ?_
        rotate_left 2
        focus (simp only [List.getElem?_toArray, List.getElem?_cons_succ, List.getElem?_cons_zero]; rfl)
        focus exact fun _ _ _ h => h
        focus rfl
        focus (intro W hS; (try dsimp only at hS); obtain ⟨x0, x1, x2, zz0, zz1, zz2, uu0, uu1, uu2, vv0, vv1, vv2, q2, q3, hbb⟩ := hS; go_simp; (try with_reducible rfl))
        try simp only [Act.put]
        try simp only [List.setIfInBounds_toArray]
        try simp only [List.set_cons_succ]
        try simp only [List.set_cons_zero]
        refine wpAnyH_take (i := 23) (oi := ?_) (v := ?_) ?_ (by kernel_rfl) (by kernel_rfl) (by kernel_rfl) ?_ (Or.inl ⟨?_, ?_⟩) (by assumption) ?_
        rotate_left 2
        focus (simp only [List.getElem?_toArray, List.getElem?_cons_succ, List.getElem?_cons_zero]; rfl)
        focus exact fun _ _ _ h => h
        focus rfl
        focus (intro W hS; (try dsimp only at hS); obtain ⟨x0, x1, x2, zz0, zz1, zz2, uu0, uu1, uu2, vv0, vv1, vv2, q2, q3, hbb⟩ := hS; go_simp; (try with_reducible rfl))
        try simp only [Act.put]
        try simp only [List.setIfInBounds_toArray]
        try simp only [List.set_cons_succ]
        try simp only [List.set_cons_zero]
        refine wpAnyH_take (i := 24) (oi := ?_) (v := undef) ?_ (by kernel_rfl) (by kernel_rfl) (by kernel_rfl) ?_ (Or.inr ⟨?_, rfl⟩) (by assumption) ?_
        rotate_left
        focus (simp only [List.getElem?_toArray, List.getElem?_cons_succ, List.getElem?_cons_zero]; rfl)
        focus exact fun _ _ _ h => h
        focus rfl
        try simp only [Act.put]
        try simp only [List.setIfInBounds_toArray]
        try simp only [List.set_cons_succ]
        try simp only [List.set_cons_zero]
        refine wpAnyH_take (i := 25) (oi := ?_) (v := undef) ?_ (by kernel_rfl) (by kernel_rfl) (by kernel_rfl) ?_ (Or.inr ⟨?_, rfl⟩) (by assumption) ?_
        rotate_left
        focus (simp only [List.getElem?_toArray, List.getElem?_cons_succ, List.getElem?_cons_zero]; rfl)
        focus exact fun _ _ _ h => h
        focus rfl
        try simp only [Act.put]
        try simp only [List.setIfInBounds_toArray]
        try simp only [List.set_cons_succ]
        try simp only [List.set_cons_zero]
        refine wpAnyH_take (i := 26) (oi := ?_) (v := undef) ?_ (by kernel_rfl) (by kernel_rfl) (by kernel_rfl) ?_ (Or.inr ⟨?_, rfl⟩) (by assumption) ?_
        rotate_left
        focus (simp only [List.getElem?_toArray, List.getElem?_cons_succ, List.getElem?_cons_zero]; rfl)
        focus exact fun _ _ _ h => h
        focus rfl
        try simp only [Act.put]
        try simp only [List.setIfInBounds_toArray]
        try simp only [List.set_cons_succ]
        try simp only [List.set_cons_zero]
        refine wpAnyH_take (i := 27) (oi := ?_) (v := undef) ?_ (by kernel_rfl) (by kernel_rfl) (by kernel_rfl) ?_ (Or.inr ⟨?_, rfl⟩) (by assumption) ?_
        rotate_left
        focus (simp only [List.getElem?_toArray, List.getElem?_cons_succ, List.getElem?_cons_zero]; rfl)
        focus exact fun _ _ _ h => h
        focus rfl
        try simp only [Act.put]
        try simp only [List.setIfInBounds_toArray]
        try simp only [List.set_cons_succ]
        try simp only [List.set_cons_zero]
        refine wpAnyH_take (i := 28) (oi := ?_) (v := undef) ?_ (by kernel_rfl) (by kernel_rfl) (by kernel_rfl) ?_ (Or.inr ⟨?_, rfl⟩) (by assumption) ?_
        rotate_left
        focus (simp only [List.getElem?_toArray, List.getElem?_cons_succ, List.getElem?_cons_zero]; rfl)
        focus exact fun _ _ _ h => h
        focus rfl
        try simp only [Act.put]
        try simp only [List.setIfInBounds_toArray]
        try simp only [List.set_cons_succ]
        try simp only [List.set_cons_zero]
        refine wpAnyH_take (i := 29) (oi := ?_) (v := undef) ?_ (by kernel_rfl) (by kernel_rfl) (by kernel_rfl) ?_ (Or.inr ⟨?_, rfl⟩) (by assumption) ?_
        rotate_left
        focus (simp only [List.getElem?_toArray, List.getElem?_cons_succ, List.getElem?_cons_zero]; rfl)
        focus exact fun _ _ _ h => h
        focus rfl
        try simp only [Act.put]
        try simp only [List.setIfInBounds_toArray]
        try simp only [List.set_cons_succ]
        try simp only [List.set_cons_zero]
        refine wpAnyH_take (i := 30) (oi := ?_) (v := undef) ?_ (by kernel_rfl) (by kernel_rfl) (by kernel_rfl) ?_ (Or.inr ⟨?_, rfl⟩) (by assumption) ?_
        rotate_left
        focus (simp only [List.getElem?_toArray, List.getElem?_cons_succ, List.getElem?_cons_zero]; rfl)
        focus exact fun _ _ _ h => h
        focus rfl
        try simp only [Act.put]
        try simp only [List.setIfInBounds_toArray]
        try simp only [List.set_cons_succ]
        try simp only [List.set_cons_zero]
        refine wpAnyH_take (i := 31) (oi := ?_) (v := ?_) ?_ (by kernel_rfl) (by kernel_rfl) (by kernel_rfl) ?_ (Or.inl ⟨?_, ?_⟩) (by assumption) ?_
        rotate_left 2
        focus (simp only [List.getElem?_toArray, List.getElem?_cons_succ, List.getElem?_cons_zero]; rfl)
        focus exact fun _ _ _ h => h
        focus rfl
        focus (intro W hS; (try dsimp only at hS); obtain ⟨x0, x1, x2, zz0, zz1, zz2, uu0, uu1, uu2, vv0, vv1, vv2, q2, q3, hbb⟩ := hS; go_simp; (try with_reducible rfl))
        try simp only [Act.put]
        try simp only [List.setIfInBounds_toArray]
        try simp only [List.set_cons_succ]
        try simp only [List.set_cons_zero]
        refine wpAnyH_take (i := 32) (oi := ?_) (v := ?_) ?_ (by kernel_rfl) (by kernel_rfl) (by kernel_rfl) ?_ (Or.inl ⟨?_, ?_⟩) (by assumption) ?_
        rotate_left 2
        focus (simp only [List.getElem?_toArray, List.getElem?_cons_succ, List.getElem?_cons_zero]; rfl)
        focus exact fun _ _ _ h => h
        focus rfl
        focus (intro W hS; (try dsimp only at hS); obtain ⟨x0, x1, x2, zz0, zz1, zz2, uu0, uu1, uu2, vv0, vv1, vv2, q2, q3, hbb⟩ := hS; go_simp; (try with_reducible rfl))
        try simp only [Act.put]
        try simp only [List.setIfInBounds_toArray]
        try simp only [List.set_cons_succ]
        try simp only [List.set_cons_zero]
        refine wpAnyH_take (i := 33) (oi := ?_) (v := ?_) ?_ (by kernel_rfl) (by kernel_rfl) (by kernel_rfl) ?_ (Or.inl ⟨?_, ?_⟩) (by assumption) ?_
        rotate_left 2
        focus (simp only [List.getElem?_toArray, List.getElem?_cons_succ, List.getElem?_cons_zero]; rfl)
        focus exact fun _ _ _ h => h
        focus rfl
        focus (intro W hS; (try dsimp only at hS); obtain ⟨x0, x1, x2, zz0, zz1, zz2, uu0, uu1, uu2, vv0, vv1, vv2, q2, q3, hbb⟩ := hS; go_simp; (try with_reducible rfl))
        try simp only [Act.put]
        try simp only [List.setIfInBounds_toArray]
        try simp only [List.set_cons_succ]
        try simp only [List.set_cons_zero]
        refine wpAnyH_take (i := 34) (oi := ?_) (v := ?_) ?_ (by kernel_rfl) (by kernel_rfl) (by kernel_rfl) ?_ (Or.inl ⟨?_, ?_⟩) (by assumption) ?_
        rotate_left 2
        focus (simp only [List.getElem?_toArray, List.getElem?_cons_succ, List.getElem?_cons_zero]; rfl)
        focus exact fun _ _ _ h => h
        focus rfl
        focus (intro W hS; (try dsimp only at hS); obtain ⟨x0, x1, x2, zz0, zz1, zz2, uu0, uu1, uu2, vv0, vv1, vv2, q2, q3, hbb⟩ := hS; go_simp; (try with_reducible rfl))
        try simp only [Act.put]
        try simp only [List.setIfInBounds_toArray]
        try simp only [List.set_cons_succ]
        try simp only [List.set_cons_zero]
        refine wpAnyH_take (i := 35) (oi := ?_) (v := ?_) ?_ (by kernel_rfl) (by kernel_rfl) (by kernel_rfl) ?_ (Or.inl ⟨?_, ?_⟩) (by assumption) ?_
        rotate_left 2
        focus (simp only [List.getElem?_toArray, List.getElem?_cons_succ, List.getElem?_cons_zero]; rfl)
        focus exact fun _ _ _ h => h
        focus rfl
        focus (intro W hS; (try dsimp only at hS); obtain ⟨x0, x1, x2, zz0, zz1, zz2, uu0, uu1, uu2, vv0, vv1, vv2, q2, q3, hbb⟩ := hS; go_simp; (try with_reducible rfl))
        try simp only [Act.put]
        try simp only [List.setIfInBounds_toArray]
        try simp only [List.set_cons_succ]
        try simp only [List.set_cons_zero]
        refine wpAnyH_take (i := 37) (oi := ?_) (v := ?_) ?_ (by kernel_rfl) (by kernel_rfl) (by kernel_rfl) ?_ (Or.inl ⟨?_, ?_⟩) (by assumption) ?_
        rotate_left 2
        focus (simp only [List.getElem?_toArray, List.getElem?_cons_succ, List.getElem?_cons_zero]; rfl)
        focus exact fun _ _ _ h => h
        focus rfl
        focus (intro W hS; (try dsimp only at hS); obtain ⟨x0, x1, x2, zz0, zz1, zz2, uu0, uu1, uu2, vv0, vv1, vv2, q2, q3, hbb⟩ := hS; go_simp; (try with_reducible rfl))
        try simp only [Act.put]
        try simp only [List.setIfInBounds_toArray]
        try simp only [List.set_cons_succ]
        try simp only [List.set_cons_zero]
        refine wpAnyH_take (i := 38) (oi := ?_) (v := ?_) ?_ (by kernel_rfl) (by kernel_rfl) (by kernel_rfl) ?_ (Or.inl ⟨?_, ?_⟩) (by assumption) ?_
        rotate_left 2
        focus (simp only [List.getElem?_toArray, List.getElem?_cons_succ, List.getElem?_cons_zero]; rfl)
        focus exact fun _ _ _ h => h
        focus rfl
        focus (intro W hS; (try dsimp only at hS); obtain ⟨x0, x1, x2, zz0, zz1, zz2, uu0, uu1, uu2, vv0, vv1, vv2, q2, q3, hbb⟩ := hS; go_simp; (try with_reducible rfl))
        try simp only [Act.put]
        try simp only [List.setIfInBounds_toArray]
        try simp only [List.set_cons_succ]
        try simp only [List.set_cons_zero]
        refine wpAnyH_ready (rs := [36]) (by kernel_rfl) (by simp) ?_
        refine AllReadyH.cons (o := ?_) ?_ (fun K hK => ?_) AllReadyH.nil
        rotate_left
        focus (simp only [List.getElem?_toArray, List.getElem?_cons_succ, List.getElem?_cons_zero]; rfl)
        rw [if_pos (by rfl)]
        go_simp
        refine (C3.out _ hHeld.2.2.2.2.2.2.2.2.2.2.2.2.2.2).mono ?_
        rintro e w9 ⟨rfl, hb9⟩
        go_wp2_with fail
        refine hK.out _ _ ⟨stays hb9 hHeld.1, stays hb9 hHeld.2.1, stays hb9 hHeld.2.2.1, stays hb9 hHeld.2.2.2.1, stays hb9 hHeld.2.2.2.2.1, stays hb9 hHeld.2.2.2.2.2.1, stays hb9 hHeld.2.2.2.2.2.2.1, stays hb9 hHeld.2.2.2.2.2.2.2.1, stays hb9 hHeld.2.2.2.2.2.2.2.2.1, stays hb9 hHeld.2.2.2.2.2.2.2.2.2.1, stays hb9 hHeld.2.2.2.2.2.2.2.2.2.2.1, stays hb9 hHeld.2.2.2.2.2.2.2.2.2.2.2.1, HC2R.out _ (Below.trans hHeld.2.2.2.2.2.2.2.2.2.2.2.2.2.2 (hb9.mono (Below.size hHeld.2.2.2.2.2.2.2.2.2.2.2.2.2.2))), HC3R.out _ (Below.trans hHeld.2.2.2.2.2.2.2.2.2.2.2.2.2.2 (hb9.mono (Below.size hHeld.2.2.2.2.2.2.2.2.2.2.2.2.2.2))), Below.trans hHeld.2.2.2.2.2.2.2.2.2.2.2.2.2.2 (hb9.mono (Below.size hHeld.2.2.2.2.2.2.2.2.2.2.2.2.2.2))⟩ (fun hHeld => ?_)
        clear hK K
        try simp only [Act.put]
        try simp only [List.setIfInBounds_toArray]
        try simp only [List.set_cons_succ]
        try simp only [List.set_cons_zero]
        refine wpAnyH_ready (rs := [39]) (by kernel_rfl) (by simp) ?_
        refine AllReadyH.cons (o := ?_) ?_ (fun K hK => ?_) AllReadyH.nil
        rotate_left
        focus (simp only [List.getElem?_toArray, List.getElem?_cons_succ, List.getElem?_cons_zero]; rfl)
        rw [if_pos (by rfl)]
        go_simp
        refine (C2.out _ hHeld.2.2.2.2.2.2.2.2.2.2.2.2.2.2).mono ?_
        rintro e w9 ⟨rfl, hb9⟩
        go_wp2_with fail
        refine hK.out _ _ ⟨stays hb9 hHeld.1, stays hb9 hHeld.2.1, stays hb9 hHeld.2.2.1, stays hb9 hHeld.2.2.2.1, stays hb9 hHeld.2.2.2.2.1, stays hb9 hHeld.2.2.2.2.2.1, stays hb9 hHeld.2.2.2.2.2.2.1, stays hb9 hHeld.2.2.2.2.2.2.2.1, stays hb9 hHeld.2.2.2.2.2.2.2.2.1, stays hb9 hHeld.2.2.2.2.2.2.2.2.2.1, stays hb9 hHeld.2.2.2.2.2.2.2.2.2.2.1, stays hb9 hHeld.2.2.2.2.2.2.2.2.2.2.2.1, HC2R.out _ (Below.trans hHeld.2.2.2.2.2.2.2.2.2.2.2.2.2.2 (hb9.mono (Below.size hHeld.2.2.2.2.2.2.2.2.2.2.2.2.2.2))), HC3R.out _ (Below.trans hHeld.2.2.2.2.2.2.2.2.2.2.2.2.2.2 (hb9.mono (Below.size hHeld.2.2.2.2.2.2.2.2.2.2.2.2.2.2))), Below.trans hHeld.2.2.2.2.2.2.2.2.2.2.2.2.2.2 (hb9.mono (Below.size hHeld.2.2.2.2.2.2.2.2.2.2.2.2.2.2))⟩ (fun hHeld => ?_)
        clear hK K
        try simp only [Act.put]
        try simp only [List.setIfInBounds_toArray]
        try simp only [List.set_cons_succ]
        try simp only [List.set_cons_zero]
        refine wpAnyH_take (i := 40) (oi := ?_) (v := ?_) ?_ (by kernel_rfl) (by kernel_rfl) (by kernel_rfl) ?_ (Or.inl ⟨?_, ?_⟩) (by assumption) ?_
        rotate_left 2
        focus (simp only [List.getElem?_toArray, List.getElem?_cons_succ, List.getElem?_cons_zero]; rfl)
        focus exact fun _ _ _ h => h
        focus rfl
        focus (intro W hS; (try dsimp only at hS); obtain ⟨x0, x1, x2, zz0, zz1, zz2, uu0, uu1, uu2, vv0, vv1, vv2, q2, q3, hbb⟩ := hS; go_simp; (try with_reducible rfl))
        try simp only [Act.put]
        try simp only [List.setIfInBounds_toArray]
        try simp only [List.set_cons_succ]
        try simp only [List.set_cons_zero]
        refine wpAnyH_take (i := 41) (oi := ?_) (v := ?_) ?_ (by kernel_rfl) (by kernel_rfl) (by kernel_rfl) ?_ (Or.inl ⟨?_, ?_⟩) (by assumption) ?_
        rotate_left 2
        focus (simp only [List.getElem?_toArray, List.getElem?_cons_succ, List.getElem?_cons_zero]; rfl)
        focus exact fun _ _ _ h => h
        focus rfl
        focus (intro W hS; (try dsimp only at hS); obtain ⟨x0, x1, x2, zz0, zz1, zz2, uu0, uu1, uu2, vv0, vv1, vv2, q2, q3, hbb⟩ := hS; go_simp; (try with_reducible rfl))
        try simp only [Act.put]
        try simp only [List.setIfInBounds_toArray]
        try simp only [List.set_cons_succ]
        try simp only [List.set_cons_zero]
        refine wpAnyH_take (i := 42) (oi := ?_) (v := ?_) ?_ (by kernel_rfl) (by kernel_rfl) (by kernel_rfl) ?_ (Or.inl ⟨?_, ?_⟩) (by assumption) ?_
        rotate_left 2
        focus (simp only [List.getElem?_toArray, List.getElem?_cons_succ, List.getElem?_cons_zero]; rfl)
        focus exact fun _ _ _ h => h
        focus rfl
        focus (intro W hS; (try dsimp only at hS); go_simp; (try with_reducible rfl))
        try simp only [Act.put]
        try simp only [List.setIfInBounds_toArray]
        try simp only [List.set_cons_succ]
        try simp only [List.set_cons_zero]
        refine wpAnyH_done (by kernel_rfl) ?_ _
        have hBW : Below wB.heap.size wB _ := hHeld.2.2.2.2.2.2.2.2.2.2.2.2.2.2
        go_wp2_with fail
        go_ret
        exact ⟨rfl, HBB.out.trans (hBW.mono HBB.out.size)⟩
      · subst hf0
        have HC2R := Lib.hid hcv2
        have HC3R := Lib.hid hcv3
        clear hcv2 hcv3
        have c1 := fun (W : World) (hW : Below wB.heap.size wB W) => refSame_ent z z az au cz cu W (HTZ.out.below hW) (HTU.out.below hW)
        have c2' := fun (W : World) (hW : Below wB.heap.size wB W) => refSame_ent z x az a cz c W (HTZ.out.below hW) (HTX.out.below hW)
        have c3' := fun (W : World) (hW : Below wB.heap.size wB W) => same_ent z x az a cz c W (HTZ.out.below hW) (HTX.out.below hW)
        have c4' := fun (W : World) (hW : Below wB.heap.size wB W) => same_ent v x av a cv c W (HTV.out.below hW) (HTX.out.below hW)
        rw [HSE.out] at c1
        generalize sameE z x = q at c2' c3'
        have C1 := Lib.hid c1
        have C2 := Lib.hid c2'
        have C3 := Lib.hid c3'
        have _C4 := Lib.hid c4'
        clear c1 c2' c3' c4'
        go_wp2_with fail
        refine wp_region_held_drew (S := (fun W => W.cell? ⟨w.heap.size, 0, none⟩ = some (.int .u64 (x.ix : Int)) ∧ W.cell? ⟨w.heap.size, 1, none⟩ = some (.int .u64 (x.term : Int)) ∧ W.cell? ⟨w.heap.size, 2, none⟩ = some (.slice a x.body.length c) ∧ W.cell? ⟨w4.heap.size, 0, none⟩ = some (.int .u64 (z.ix : Int)) ∧ W.cell? ⟨w4.heap.size, 1, none⟩ = some (.int .u64 (z.term : Int)) ∧ W.cell? ⟨w4.heap.size, 2, none⟩ = some (.slice az z.body.length cz) ∧ W.cell? ⟨w6.heap.size, 0, none⟩ = some (.int .u64 (z.ix : Int)) ∧ W.cell? ⟨w6.heap.size, 1, none⟩ = some (.int .u64 (z.term : Int)) ∧ W.cell? ⟨w6.heap.size, 2, none⟩ = some (.slice au z.body.length cu) ∧ W.cell? ⟨w8.heap.size, 0, none⟩ = some (.int .u64 (v.ix : Int)) ∧ W.cell? ⟨w8.heap.size, 1, none⟩ = some (.int .u64 (v.term : Int)) ∧ W.cell? ⟨w8.heap.size, 2, none⟩ = some (.slice av v.body.length cv) ∧ (convert 39 9 (.slice a2 xs.length c2)).run Tryz.prog W = .ok (.string SX) W ∧ (convert 39 9 (.slice a3 xs.length c3)).run Tryz.prog W = .ok (.string SX) W ∧ Below wB.heap.size wB W)) (by kernel_rfl) ⟨e0, e1, e2, z0, z1, z2, u0, u1, u2, v0, v1, v2, HC2R.out _ (Below.refl _ _).drew, HC3R.out _ (Below.refl _ _).drew, (Below.refl _ _).drew⟩ (fun hHeld => ?_)
        refine wpAnyH_take (i := 0) (oi := ?_) (v := ?_) ?_ (by kernel_rfl) (by kernel_rfl) (by kernel_rfl) ?_ (Or.inl ⟨?_, ?_⟩) (by assumption) ?_
        rotate_left 2
        focus (simp only [List.getElem?_toArray, List.getElem?_cons_zero]; rfl)
        focus exact fun _ _ _ h => h
        focus rfl
        focus (intro W hS; (try dsimp only at hS); obtain ⟨x0, x1, x2, zz0, zz1, zz2, uu0, uu1, uu2, vv0, vv1, vv2, q2, q3, hbb⟩ := hS; go_simp; (try with_reducible rfl))
        try simp only [Act.put]
        try simp only [List.setIfInBounds_toArray]
        try simp only [List.set_cons_succ]
        try simp only [List.set_cons_zero]
        refine wpAnyH_take (i := 1) (oi := ?_) (v := ?_) ?_ (by kernel_rfl) (by kernel_rfl) (by kernel_rfl) ?_ (Or.inl ⟨?_, ?_⟩) (by assumption) ?_
        rotate_left 2
        focus (simp only [List.getElem?_toArray, List.getElem?_cons_succ, List.getElem?_cons_zero]; rfl)
        focus exact fun _ _ _ h => h
        focus rfl
        focus (intro W hS; (try dsimp only at hS); obtain ⟨x0, x1, x2, zz0, zz1, zz2, uu0, uu1, uu2, vv0, vv1, vv2, q2, q3, hbb⟩ := hS; go_simp; (try with_reducible rfl))
        try simp only [Act.put]
        try simp only [List.setIfInBounds_toArray]
        try simp only [List.set_cons_succ]
        try simp only [List.set_cons_zero]
        refine wpAnyH_take (i := 2) (oi := ?_) (v := ?_) ?_ (by kernel_rfl) (by kernel_rfl) (by kernel_rfl) ?_ (Or.inl ⟨?_, ?_⟩) (by assumption) ?_
        rotate_left 2
        focus (simp only [List.getElem?_toArray, List.getElem?_cons_succ, List.getElem?_cons_zero]; rfl)
        focus exact fun _ _ _ h => h
        focus rfl
        focus (intro W hS; (try dsimp only at hS); obtain ⟨x0, x1, x2, zz0, zz1, zz2, uu0, uu1, uu2, vv0, vv1, vv2, q2, q3, hbb⟩ := hS; go_simp; (try with_reducible rfl))
        try simp only [Act.put]
        try simp only [List.setIfInBounds_toArray]
        try simp only [List.set_cons_succ]
        try simp only [List.set_cons_zero]
        refine wpAnyH_take (i := 3) (oi := ?_) (v := ?_) ?_ (by kernel_rfl) (by kernel_rfl) (by kernel_rfl) ?_ (Or.inl ⟨?_, ?_⟩) (by assumption) ?_
        rotate_left 2
        focus (simp only [List.getElem?_toArray, List.getElem?_cons_succ, List.getElem?_cons_zero]; rfl)
        focus exact fun _ _ _ h => h
        focus rfl
        focus (intro W hS; (try dsimp only at hS); obtain ⟨x0, x1, x2, zz0, zz1, zz2, uu0, uu1, uu2, vv0, vv1, vv2, q2, q3, hbb⟩ := hS; go_simp; (try with_reducible rfl))
        try simp only [Act.put]
        try simp only [List.setIfInBounds_toArray]
        try simp only [List.set_cons_succ]
        try simp only [List.set_cons_zero]
        refine wpAnyH_take (i := 4) (oi := ?_) (v := ?_) ?_ (by kernel_rfl) (by kernel_rfl) (by kernel_rfl) ?_ (Or.inl ⟨?_, ?_⟩) (by assumption) ?_
        rotate_left 2
        focus (simp only [List.getElem?_toArray, List.getElem?_cons_succ, List.getElem?_cons_zero]; rfl)
        focus exact fun _ _ _ h => h
        focus rfl
        focus (intro W hS; (try dsimp only at hS); obtain ⟨x0, x1, x2, zz0, zz1, zz2, uu0, uu1, uu2, vv0, vv1, vv2, q2, q3, hbb⟩ := hS; go_simp; (try with_reducible rfl))
        try simp only [Act.put]
        try simp only [List.setIfInBounds_toArray]
        try simp only [List.set_cons_succ]
        try simp only [List.set_cons_zero]
        refine wpAnyH_take (i := 5) (oi := ?_) (v := ?_) ?_ (by kernel_rfl) (by kernel_rfl) (by kernel_rfl) ?_ (Or.inl ⟨?_, ?_⟩) (by assumption) ?_
        rotate_left 2
        focus (simp only [List.getElem?_toArray, List.getElem?_cons_succ, List.getElem?_cons_zero]; rfl)
        focus exact fun _ _ _ h => h
        focus rfl
        focus (intro W hS; (try dsimp only at hS); obtain ⟨x0, x1, x2, zz0, zz1, zz2, uu0, uu1, uu2, vv0, vv1, vv2, q2, q3, hbb⟩ := hS; go_simp; (try with_reducible rfl))
        try simp only [Act.put]
        try simp only [List.setIfInBounds_toArray]
        try simp only [List.set_cons_succ]
        try simp only [List.set_cons_zero]
        refine wpAnyH_take (i := 6) (oi := ?_) (v := ?_) ?_ (by kernel_rfl) (by kernel_rfl) (by kernel_rfl) ?_ (Or.inl ⟨?_, ?_⟩) (by assumption) ?_
        rotate_left 2
        focus (simp only [List.getElem?_toArray, List.getElem?_cons_succ, List.getElem?_cons_zero]; rfl)
        focus exact fun _ _ _ h => h
        focus rfl
        focus (intro W hS; (try dsimp only at hS); obtain ⟨x0, x1, x2, zz0, zz1, zz2, uu0, uu1, uu2, vv0, vv1, vv2, q2, q3, hbb⟩ := hS; go_simp; (try with_reducible rfl))
        try simp only [Act.put]
        try simp only [List.setIfInBounds_toArray]
        try simp only [List.set_cons_succ]
        try simp only [List.set_cons_zero]
        refine wpAnyH_take (i := 7) (oi := ?_) (v := ?_) ?_ (by kernel_rfl) (by kernel_rfl) (by kernel_rfl) ?_ (Or.inl ⟨?_, ?_⟩) (by assumption) ?_
        rotate_left 2
        focus (simp only [List.getElem?_toArray, List.getElem?_cons_succ, List.getElem?_cons_zero]; rfl)
        focus exact fun _ _ _ h => h
        focus rfl
        focus (intro W hS; (try dsimp only at hS); obtain ⟨x0, x1, x2, zz0, zz1, zz2, uu0, uu1, uu2, vv0, vv1, vv2, q2, q3, hbb⟩ := hS; go_simp; (try with_reducible rfl))
        try simp only [Act.put]
        try simp only [List.setIfInBounds_toArray]
        try simp only [List.set_cons_succ]
        try simp only [List.set_cons_zero]
        refine wpAnyH_take (i := 8) (oi := ?_) (v := ?_) ?_ (by kernel_rfl) (by kernel_rfl) (by kernel_rfl) ?_ (Or.inl ⟨?_, ?_⟩) (by assumption) ?_
        rotate_left 2
        focus (simp only [List.getElem?_toArray, List.getElem?_cons_succ, List.getElem?_cons_zero]; rfl)
        focus exact fun _ _ _ h => h
        focus rfl
        focus (intro W hS; (try dsimp only at hS); obtain ⟨x0, x1, x2, zz0, zz1, zz2, uu0, uu1, uu2, vv0, vv1, vv2, q2, q3, hbb⟩ := hS; go_simp; (try with_reducible rfl))
        try simp only [Act.put]
        try simp only [List.setIfInBounds_toArray]
        try simp only [List.set_cons_succ]
        try simp only [List.set_cons_zero]
        refine wpAnyH_take (i := 9) (oi := ?_) (v := ?_) ?_ (by kernel_rfl) (by kernel_rfl) (by kernel_rfl) ?_ (Or.inl ⟨?_, ?_⟩) (by assumption) ?_
        rotate_left 2
        focus (simp only [List.getElem?_toArray, List.getElem?_cons_succ, List.getElem?_cons_zero]; rfl)
        focus exact fun _ _ _ h => h
        focus rfl
        focus (intro W hS; (try dsimp only at hS); obtain ⟨x0, x1, x2, zz0, zz1, zz2, uu0, uu1, uu2, vv0, vv1, vv2, q2, q3, hbb⟩ := hS; go_simp; (try with_reducible rfl))
        try simp only [Act.put]
        try simp only [List.setIfInBounds_toArray]
        try simp only [List.set_cons_succ]
        try simp only [List.set_cons_zero]
        refine wpAnyH_take (i := 10) (oi := ?_) (v := ?_) ?_ (by kernel_rfl) (by kernel_rfl) (by kernel_rfl) ?_ (Or.inl ⟨?_, ?_⟩) (by assumption) ?_
        rotate_left 2
        focus (simp only [List.getElem?_toArray, List.getElem?_cons_succ, List.getElem?_cons_zero]; rfl)
        focus exact fun _ _ _ h => h
        focus rfl
        focus (intro W hS; (try dsimp only at hS); obtain ⟨x0, x1, x2, zz0, zz1, zz2, uu0, uu1, uu2, vv0, vv1, vv2, q2, q3, hbb⟩ := hS; go_simp; (try with_reducible rfl))
        try simp only [Act.put]
        try simp only [List.setIfInBounds_toArray]
        try simp only [List.set_cons_succ]
        try simp only [List.set_cons_zero]
        refine wpAnyH_take (i := 11) (oi := ?_) (v := ?_) ?_ (by kernel_rfl) (by kernel_rfl) (by kernel_rfl) ?_ (Or.inl ⟨?_, ?_⟩) (by assumption) ?_
        rotate_left 2
        focus (simp only [List.getElem?_toArray, List.getElem?_cons_succ, List.getElem?_cons_zero]; rfl)
        focus exact fun _ _ _ h => h
        focus rfl
        focus (intro W hS; (try dsimp only at hS); obtain ⟨x0, x1, x2, zz0, zz1, zz2, uu0, uu1, uu2, vv0, vv1, vv2, q2, q3, hbb⟩ := hS; go_simp; (try with_reducible rfl))
        try simp only [Act.put]
        try simp only [List.setIfInBounds_toArray]
        try simp only [List.set_cons_succ]
        try simp only [List.set_cons_zero]
        refine wpAnyH_take (i := 12) (oi := ?_) (v := ?_) ?_ (by kernel_rfl) (by kernel_rfl) (by kernel_rfl) ?_ (Or.inl ⟨?_, ?_⟩) (by assumption) ?_
        rotate_left 2
        focus (simp only [List.getElem?_toArray, List.getElem?_cons_succ, List.getElem?_cons_zero]; rfl)
        focus exact fun _ _ _ h => h
        focus rfl
        focus (intro W hS; (try dsimp only at hS); obtain ⟨x0, x1, x2, zz0, zz1, zz2, uu0, uu1, uu2, vv0, vv1, vv2, q2, q3, hbb⟩ := hS; go_simp; (try with_reducible rfl))
        try simp only [Act.put]
        try simp only [List.setIfInBounds_toArray]
        try simp only [List.set_cons_succ]
        try simp only [List.set_cons_zero]
        refine wpAnyH_ready (rs := [13]) (by kernel_rfl) (by simp) ?_
        refine AllReadyH.cons (o := ?_) ?_ (fun K hK => ?_) AllReadyH.nil
        rotate_left
        focus (simp only [List.getElem?_toArray, List.getElem?_cons_succ, List.getElem?_cons_zero]; rfl)
        rw [if_pos (by rfl)]
        go_simp
        refine (C1.out _ hHeld.2.2.2.2.2.2.2.2.2.2.2.2.2.2).mono ?_
        rintro e w9 ⟨rfl, hb9⟩
        go_wp2_with fail
        refine hK.out _ _ ⟨stays hb9 hHeld.1, stays hb9 hHeld.2.1, stays hb9 hHeld.2.2.1, stays hb9 hHeld.2.2.2.1, stays hb9 hHeld.2.2.2.2.1, stays hb9 hHeld.2.2.2.2.2.1, stays hb9 hHeld.2.2.2.2.2.2.1, stays hb9 hHeld.2.2.2.2.2.2.2.1, stays hb9 hHeld.2.2.2.2.2.2.2.2.1, stays hb9 hHeld.2.2.2.2.2.2.2.2.2.1, stays hb9 hHeld.2.2.2.2.2.2.2.2.2.2.1, stays hb9 hHeld.2.2.2.2.2.2.2.2.2.2.2.1, HC2R.out _ (Below.trans hHeld.2.2.2.2.2.2.2.2.2.2.2.2.2.2 (hb9.mono (Below.size hHeld.2.2.2.2.2.2.2.2.2.2.2.2.2.2))), HC3R.out _ (Below.trans hHeld.2.2.2.2.2.2.2.2.2.2.2.2.2.2 (hb9.mono (Below.size hHeld.2.2.2.2.2.2.2.2.2.2.2.2.2.2))), Below.trans hHeld.2.2.2.2.2.2.2.2.2.2.2.2.2.2 (hb9.mono (Below.size hHeld.2.2.2.2.2.2.2.2.2.2.2.2.2.2))⟩ (fun hHeld => ?_)
        clear hK K
        try simp only [Act.put]
        try simp only [List.setIfInBounds_toArray]
        try simp only [List.set_cons_succ]
        try simp only [List.set_cons_zero]
        refine wpAnyH_take (i := 14) (oi := ?_) (v := ?_) ?_ (by kernel_rfl) (by kernel_rfl) (by kernel_rfl) ?_ (Or.inl ⟨?_, ?_⟩) (by assumption) ?_
        rotate_left 2
        focus (simp only [List.getElem?_toArray, List.getElem?_cons_succ, List.getElem?_cons_zero]; rfl)
        focus exact fun _ _ _ h => h
        focus rfl
        focus (intro W hS; (try dsimp only at hS); obtain ⟨x0, x1, x2, zz0, zz1, zz2, uu0, uu1, uu2, vv0, vv1, vv2, q2, q3, hbb⟩ := hS; go_simp; (try with_reducible rfl))
        try simp only [Act.put]
        try simp only [List.setIfInBounds_toArray]
        try simp only [List.set_cons_succ]
        try simp only [List.set_cons_zero]
        refine wpAnyH_take (i := 15) (oi := ?_) (v := ?_) ?_ (by kernel_rfl) (by kernel_rfl) (by kernel_rfl) ?_ (Or.inl ⟨?_, ?_⟩) (by assumption) ?_
        rotate_left 2
        focus (simp only [List.getElem?_toArray, List.getElem?_cons_succ, List.getElem?_cons_zero]; rfl)
        focus exact fun _ _ _ h => h
        focus rfl
        focus (intro W hS; (try dsimp only at hS); obtain ⟨x0, x1, x2, zz0, zz1, zz2, uu0, uu1, uu2, vv0, vv1, vv2, q2, q3, hbb⟩ := hS; go_simp; (try with_reducible rfl))
        try simp only [Act.put]
        try simp only [List.setIfInBounds_toArray]
        try simp only [List.set_cons_succ]
        try simp only [List.set_cons_zero]
        refine wpAnyH_take (i := 16) (oi := ?_) (v := ?_) ?_ (by kernel_rfl) (by kernel_rfl) (by kernel_rfl) ?_ (Or.inl ⟨?_, ?_⟩) (by assumption) ?_
        rotate_left 2
        focus (simp only [List.getElem?_toArray, List.getElem?_cons_succ, List.getElem?_cons_zero]; rfl)
        focus exact fun _ _ _ h => h
        focus rfl
        focus (intro W hS; (try dsimp only at hS); obtain ⟨x0, x1, x2, zz0, zz1, zz2, uu0, uu1, uu2, vv0, vv1, vv2, q2, q3, hbb⟩ := hS; go_simp; (try with_reducible rfl))
        try simp only [Act.put]
        try simp only [List.setIfInBounds_toArray]
        try simp only [List.set_cons_succ]
        try simp only [List.set_cons_zero]
        refine wpAnyH_take (i := 17) (oi := ?_) (v := ?_) ?_ (by kernel_rfl) (by kernel_rfl) (by kernel_rfl) ?_ (Or.inl ⟨?_, ?_⟩) (by assumption) ?_
        rotate_left 2
        focus (simp only [List.getElem?_toArray, List.getElem?_cons_succ, List.getElem?_cons_zero]; rfl)
        focus exact fun _ _ _ h => h
        focus rfl
        focus (intro W hS; (try dsimp only at hS); obtain ⟨x0, x1, x2, zz0, zz1, zz2, uu0, uu1, uu2, vv0, vv1, vv2, q2, q3, hbb⟩ := hS; go_simp; (try with_reducible rfl))
        try simp only [Act.put]
        try simp only [List.setIfInBounds_toArray]
        try simp only [List.set_cons_succ]
        try simp only [List.set_cons_zero]
        refine wpAnyH_take (i := 18) (oi := ?_) (v := ?_) ?_ (by kernel_rfl) (by kernel_rfl) (by kernel_rfl) ?_ (Or.inl ⟨?_, ?_⟩) (by assumption) ?_
        rotate_left 2
        focus (simp only [List.getElem?_toArray, List.getElem?_cons_succ, List.getElem?_cons_zero]; rfl)
        focus exact fun _ _ _ h => h
        focus rfl
        focus (intro W hS; (try dsimp only at hS); obtain ⟨x0, x1, x2, zz0, zz1, zz2, uu0, uu1, uu2, vv0, vv1, vv2, q2, q3, hbb⟩ := hS; go_simp; (try with_reducible rfl))
        try simp only [Act.put]
        try simp only [List.setIfInBounds_toArray]
        try simp only [List.set_cons_succ]
        try simp only [List.set_cons_zero]
        refine wpAnyH_take (i := 19) (oi := ?_) (v := ?_) ?_ (by kernel_rfl) (by kernel_rfl) (by kernel_rfl) ?_ (Or.inl ⟨?_, ?_⟩) (by assumption) ?_
        rotate_left 2
        focus (simp only [List.getElem?_toArray, List.getElem?_cons_succ, List.getElem?_cons_zero]; rfl)
        focus exact fun _ _ _ h => h
        focus rfl
        focus (intro W hS; (try dsimp only at hS); obtain ⟨x0, x1, x2, zz0, zz1, zz2, uu0, uu1, uu2, vv0, vv1, vv2, q2, q3, hbb⟩ := hS; go_simp; (try with_reducible rfl))
        try simp only [Act.put]
        try simp only [List.setIfInBounds_toArray]
        try simp only [List.set_cons_succ]
        try simp only [List.set_cons_zero]
        refine wpAnyH_take (i := 20) (oi := ?_) (v := ?_) ?_ (by kernel_rfl) (by kernel_rfl) (by kernel_rfl) ?_ (Or.inl ⟨?_, ?_⟩) (by assumption) ?_
        rotate_left 2
        focus (simp only [List.getElem?_toArray, List.getElem?_cons_succ, List.getElem?_cons_zero]; rfl)
        focus exact fun _ _ _ h => h
        focus rfl
        focus (intro W hS; (try dsimp only at hS); obtain ⟨x0, x1, x2, zz0, zz1, zz2, uu0, uu1, uu2, vv0, vv1, vv2, q2, q3, hbb⟩ := hS; go_simp; (try with_reducible rfl))
        try simp only [Act.put]
        try simp only [List.setIfInBounds_toArray]
        try simp only [List.set_cons_succ]
        try simp only [List.set_cons_zero]
        refine wpAnyH_take (i := 21) (oi := ?_) (v := ?_) ?_ (by kernel_rfl) (by kernel_rfl) (by kernel_rfl) ?_ (Or.inl ⟨?_, ?_⟩) (by assumption) ?_
        rotate_left 2
        focus (simp only [List.getElem?_toArray, List.getElem?_cons_succ, List.getElem?_cons_zero]; rfl)
        focus exact fun _ _ _ h => h
        focus rfl
        focus (intro W hS; (try dsimp only at hS); obtain ⟨x0, x1, x2, zz0, zz1, zz2, uu0, uu1, uu2, vv0, vv1, vv2, q2, q3, hbb⟩ := hS; go_simp; (try with_reducible rfl))
        try simp only [Act.put]
        try simp only [List.setIfInBounds_toArray]
        try simp only [List.set_cons_succ]
        try simp only [List.set_cons_zero]
        refine wpAnyH_take (i := 22) (oi := ?_) (v := ?_) ?_ (by kernel_rfl) (by kernel_rfl) (by kernel_rfl) ?_ (Or.inl ⟨?_, ?_⟩) (by assumption) ?_
        rotate_left 2
        focus (simp only [List.getElem?_toArray, List.getElem?_cons_succ, List.getElem?_cons_zero]; rfl)
        focus exact fun _ _ _ h => h
        focus rfl
        focus (intro W hS; (try dsimp only at hS); obtain ⟨x0, x1, x2, zz0, zz1, zz2, uu0, uu1, uu2, vv0, vv1, vv2, q2, q3, hbb⟩ := hS; go_simp; (try with_reducible rfl))
        try simp only [Act.put]
        try simp only [List.setIfInBounds_toArray]
        try simp only [List.set_cons_succ]
        try simp only [List.set_cons_zero]
        refine wpAnyH_take (i := 23) (oi := ?_) (v := ?_) ?_ (by kernel_rfl) (by kernel_rfl) (by kernel_rfl) ?_ (Or.inl ⟨?_, ?_⟩) (by assumption) ?_
        rotate_left 2
        focus (simp only [List.getElem?_toArray, List.getElem?_cons_succ, List.getElem?_cons_zero]; rfl)
        focus exact fun _ _ _ h => h
        focus rfl
        focus (intro W hS; (try dsimp only at hS); obtain ⟨x0, x1, x2, zz0, zz1, zz2, uu0, uu1, uu2, vv0, vv1, vv2, q2, q3, hbb⟩ := hS; go_simp; (try with_reducible rfl))
        try simp only [Act.put]
        try simp only [List.setIfInBounds_toArray]
        try simp only [List.set_cons_succ]
        try simp only [List.set_cons_zero]
        refine wpAnyH_take (i := 24) (oi := ?_) (v := undef) ?_ (by kernel_rfl) (by kernel_rfl) (by kernel_rfl) ?_ (Or.inr ⟨?_, rfl⟩) (by assumption) ?_
        rotate_left
        focus (simp only [List.getElem?_toArray, List.getElem?_cons_succ, List.getElem?_cons_zero]; rfl)
        focus exact fun _ _ _ h => h
        focus rfl
        try simp only [Act.put]
        try simp only [List.setIfInBounds_toArray]
        try simp only [List.set_cons_succ]
        try simp only [List.set_cons_zero]
        refine wpAnyH_take (i := 25) (oi := ?_) (v := undef) ?_ (by kernel_rfl) (by kernel_rfl) (by kernel_rfl) ?_ (Or.inr ⟨?_, rfl⟩) (by assumption) ?_
        rotate_left
        focus (simp only [List.getElem?_toArray, List.getElem?_cons_succ, List.getElem?_cons_zero]; rfl)
        focus exact fun _ _ _ h => h
        focus rfl
        try simp only [Act.put]
        try simp only [List.setIfInBounds_toArray]
        try simp only [List.set_cons_succ]
        try simp only [List.set_cons_zero]
        refine wpAnyH_take (i := 26) (oi := ?_) (v := undef) ?_ (by kernel_rfl) (by kernel_rfl) (by kernel_rfl) ?_ (Or.inr ⟨?_, rfl⟩) (by assumption) ?_
        rotate_left
        focus (simp only [List.getElem?_toArray, List.getElem?_cons_succ, List.getElem?_cons_zero]; rfl)
        focus exact fun _ _ _ h => h
        focus rfl
        try simp only [Act.put]
        try simp only [List.setIfInBounds_toArray]
        try simp only [List.set_cons_succ]
        try simp only [List.set_cons_zero]
        refine wpAnyH_take (i := 27) (oi := ?_) (v := undef) ?_ (by kernel_rfl) (by kernel_rfl) (by kernel_rfl) ?_ (Or.inr ⟨?_, rfl⟩) (by assumption) ?_
        rotate_left
        focus (simp only [List.getElem?_toArray, List.getElem?_cons_succ, List.getElem?_cons_zero]; rfl)
        focus exact fun _ _ _ h => h
        focus rfl
        try simp only [Act.put]
        try simp only [List.setIfInBounds_toArray]
        try simp only [List.set_cons_succ]
        try simp only [List.set_cons_zero]
        refine wpAnyH_take (i := 28) (oi := ?_) (v := undef) ?_ (by kernel_rfl) (by kernel_rfl) (by kernel_rfl) ?_ (Or.inr ⟨?_, rfl⟩) (by assumption) ?_
        rotate_left
        focus (simp only [List.getElem?_toArray, List.getElem?_cons_succ, List.getElem?_cons_zero]; rfl)
        focus exact fun _ _ _ h => h
        focus rfl
        try simp only [Act.put]
        try simp only [List.setIfInBounds_toArray]
        try simp only [List.set_cons_succ]
        try simp only [List.set_cons_zero]
        refine wpAnyH_take (i := 29) (oi := ?_) (v := undef) ?_ (by kernel_rfl) (by kernel_rfl) (by kernel_rfl) ?_ (Or.inr ⟨?_, rfl⟩) (by assumption) ?_
        rotate_left
        focus (simp only [List.getElem?_toArray, List.getElem?_cons_succ, List.getElem?_cons_zero]; rfl)
        focus exact fun _ _ _ h => h
        focus rfl
        try simp only [Act.put]
        try simp only [List.setIfInBounds_toArray]
        try simp only [List.set_cons_succ]
        try simp only [List.set_cons_zero]
        refine wpAnyH_take (i := 30) (oi := ?_) (v := undef) ?_ (by kernel_rfl) (by kernel_rfl) (by kernel_rfl) ?_ (Or.inr ⟨?_, rfl⟩) (by assumption) ?_
        rotate_left
        focus (simp only [List.getElem?_toArray, List.getElem?_cons_succ, List.getElem?_cons_zero]; rfl)
        focus exact fun _ _ _ h => h
        focus rfl
        try simp only [Act.put]
        try simp only [List.setIfInBounds_toArray]
        try simp only [List.set_cons_succ]
        try simp only [List.set_cons_zero]
        refine wpAnyH_take (i := 31) (oi := ?_) (v := ?_) ?_ (by kernel_rfl) (by kernel_rfl) (by kernel_rfl) ?_ (Or.inl ⟨?_, ?_⟩) (by assumption) ?_
        rotate_left 2
        focus (simp only [List.getElem?_toArray, List.getElem?_cons_succ, List.getElem?_cons_zero]; rfl)
        focus exact fun _ _ _ h => h
        focus rfl
        focus (intro W hS; (try dsimp only at hS); obtain ⟨x0, x1, x2, zz0, zz1, zz2, uu0, uu1, uu2, vv0, vv1, vv2, q2, q3, hbb⟩ := hS; go_simp; (try with_reducible rfl))
        try simp only [Act.put]
        try simp only [List.setIfInBounds_toArray]
        try simp only [List.set_cons_succ]
        try simp only [List.set_cons_zero]
        refine wpAnyH_take (i := 32) (oi := ?_) (v := ?_) ?_ (by kernel_rfl) (by kernel_rfl) (by kernel_rfl) ?_ (Or.inl ⟨?_, ?_⟩) (by assumption) ?_
        rotate_left 2
        focus (simp only [List.getElem?_toArray, List.getElem?_cons_succ, List.getElem?_cons_zero]; rfl)
        focus exact fun _ _ _ h => h
        focus rfl
        focus (intro W hS; (try dsimp only at hS); obtain ⟨x0, x1, x2, zz0, zz1, zz2, uu0, uu1, uu2, vv0, vv1, vv2, q2, q3, hbb⟩ := hS; go_simp; (try with_reducible rfl))
        try simp only [Act.put]
        try simp only [List.setIfInBounds_toArray]
        try simp only [List.set_cons_succ]
        try simp only [List.set_cons_zero]
        refine wpAnyH_take (i := 33) (oi := ?_) (v := ?_) ?_ (by kernel_rfl) (by kernel_rfl) (by kernel_rfl) ?_ (Or.inl ⟨?_, ?_⟩) (by assumption) ?_
        rotate_left 2
        focus (simp only [List.getElem?_toArray, List.getElem?_cons_succ, List.getElem?_cons_zero]; rfl)
        focus exact fun _ _ _ h => h
        focus rfl
        focus (intro W hS; (try dsimp only at hS); obtain ⟨x0, x1, x2, zz0, zz1, zz2, uu0, uu1, uu2, vv0, vv1, vv2, q2, q3, hbb⟩ := hS; go_simp; (try with_reducible rfl))
        try simp only [Act.put]
        try simp only [List.setIfInBounds_toArray]
        try simp only [List.set_cons_succ]
        try simp only [List.set_cons_zero]
        refine wpAnyH_take (i := 34) (oi := ?_) (v := ?_) ?_ (by kernel_rfl) (by kernel_rfl) (by kernel_rfl) ?_ (Or.inl ⟨?_, ?_⟩) (by assumption) ?_
        rotate_left 2
        focus (simp only [List.getElem?_toArray, List.getElem?_cons_succ, List.getElem?_cons_zero]; rfl)
        focus exact fun _ _ _ h => h
        focus rfl
        focus (intro W hS; (try dsimp only at hS); obtain ⟨x0, x1, x2, zz0, zz1, zz2, uu0, uu1, uu2, vv0, vv1, vv2, q2, q3, hbb⟩ := hS; go_simp; (try with_reducible rfl))
        try simp only [Act.put]
        try simp only [List.setIfInBounds_toArray]
        try simp only [List.set_cons_succ]
        try simp only [List.set_cons_zero]
        refine wpAnyH_take (i := 35) (oi := ?_) (v := ?_) ?_ (by kernel_rfl) (by kernel_rfl) (by kernel_rfl) ?_ (Or.inl ⟨?_, ?_⟩) (by assumption) ?_
        rotate_left 2
        focus (simp only [List.getElem?_toArray, List.getElem?_cons_succ, List.getElem?_cons_zero]; rfl)
        focus exact fun _ _ _ h => h
        focus rfl
        focus (intro W hS; (try dsimp only at hS); obtain ⟨x0, x1, x2, zz0, zz1, zz2, uu0, uu1, uu2, vv0, vv1, vv2, q2, q3, hbb⟩ := hS; go_simp; (try with_reducible rfl))
        try simp only [Act.put]
        try simp only [List.setIfInBounds_toArray]
        try simp only [List.set_cons_succ]
        try simp only [List.set_cons_zero]
        refine wpAnyH_take (i := 37) (oi := ?_) (v := ?_) ?_ (by kernel_rfl) (by kernel_rfl) (by kernel_rfl) ?_ (Or.inl ⟨?_, ?_⟩) (by assumption) ?_
        rotate_left 2
        focus (simp only [List.getElem?_toArray, List.getElem?_cons_succ, List.getElem?_cons_zero]; rfl)
        focus exact fun _ _ _ h => h
        focus rfl
        focus (intro W hS; (try dsimp only at hS); obtain ⟨x0, x1, x2, zz0, zz1, zz2, uu0, uu1, uu2, vv0, vv1, vv2, q2, q3, hbb⟩ := hS; go_simp; (try with_reducible rfl))
        try simp only [Act.put]
        try simp only [List.setIfInBounds_toArray]
        try simp only [List.set_cons_succ]
        try simp only [List.set_cons_zero]
        refine wpAnyH_take (i := 38) (oi := ?_) (v := ?_) ?_ (by kernel_rfl) (by kernel_rfl) (by kernel_rfl) ?_ (Or.inl ⟨?_, ?_⟩) (by assumption) ?_
        rotate_left 2
        focus (simp only [List.getElem?_toArray, List.getElem?_cons_succ, List.getElem?_cons_zero]; rfl)
        focus exact fun _ _ _ h => h
        focus rfl
        focus (intro W hS; (try dsimp only at hS); obtain ⟨x0, x1, x2, zz0, zz1, zz2, uu0, uu1, uu2, vv0, vv1, vv2, q2, q3, hbb⟩ := hS; go_simp; (try with_reducible rfl))
        try simp only [Act.put]
        try simp only [List.setIfInBounds_toArray]
        try simp only [List.set_cons_succ]
        try simp only [List.set_cons_zero]
        refine wpAnyH_ready (rs := [36]) (by kernel_rfl) (by simp) ?_
        refine AllReadyH.cons (o := ?_) ?_ (fun K hK => ?_) AllReadyH.nil
        rotate_left
        focus (simp only [List.getElem?_toArray, List.getElem?_cons_succ, List.getElem?_cons_zero]; rfl)
        rw [if_pos (by rfl)]
        go_simp
        refine (C3.out _ hHeld.2.2.2.2.2.2.2.2.2.2.2.2.2.2).mono ?_
        rintro e w9 ⟨rfl, hb9⟩
        go_wp2_with fail
        refine hK.out _ _ ⟨stays hb9 hHeld.1, stays hb9 hHeld.2.1, stays hb9 hHeld.2.2.1, stays hb9 hHeld.2.2.2.1, stays hb9 hHeld.2.2.2.2.1, stays hb9 hHeld.2.2.2.2.2.1, stays hb9 hHeld.2.2.2.2.2.2.1, stays hb9 hHeld.2.2.2.2.2.2.2.1, stays hb9 hHeld.2.2.2.2.2.2.2.2.1, stays hb9 hHeld.2.2.2.2.2.2.2.2.2.1, stays hb9 hHeld.2.2.2.2.2.2.2.2.2.2.1, stays hb9 hHeld.2.2.2.2.2.2.2.2.2.2.2.1, HC2R.out _ (Below.trans hHeld.2.2.2.2.2.2.2.2.2.2.2.2.2.2 (hb9.mono (Below.size hHeld.2.2.2.2.2.2.2.2.2.2.2.2.2.2))), HC3R.out _ (Below.trans hHeld.2.2.2.2.2.2.2.2.2.2.2.2.2.2 (hb9.mono (Below.size hHeld.2.2.2.2.2.2.2.2.2.2.2.2.2.2))), Below.trans hHeld.2.2.2.2.2.2.2.2.2.2.2.2.2.2 (hb9.mono (Below.size hHeld.2.2.2.2.2.2.2.2.2.2.2.2.2.2))⟩ (fun hHeld => ?_)
        clear hK K
        try simp only [Act.put]
        try simp only [List.setIfInBounds_toArray]
        try simp only [List.set_cons_succ]
        try simp only [List.set_cons_zero]
        refine wpAnyH_ready (rs := [39]) (by kernel_rfl) (by simp) ?_
        refine AllReadyH.cons (o := ?_) ?_ (fun K hK => ?_) AllReadyH.nil
        rotate_left
        focus (simp only [List.getElem?_toArray, List.getElem?_cons_succ, List.getElem?_cons_zero]; rfl)
        rw [if_pos (by rfl)]
        go_simp
        refine (C2.out _ hHeld.2.2.2.2.2.2.2.2.2.2.2.2.2.2).mono ?_
        rintro e w9 ⟨rfl, hb9⟩
        go_wp2_with fail
        refine hK.out _ _ ⟨stays hb9 hHeld.1, stays hb9 hHeld.2.1, stays hb9 hHeld.2.2.1, stays hb9 hHeld.2.2.2.1, stays hb9 hHeld.2.2.2.2.1, stays hb9 hHeld.2.2.2.2.2.1, stays hb9 hHeld.2.2.2.2.2.2.1, stays hb9 hHeld.2.2.2.2.2.2.2.1, stays hb9 hHeld.2.2.2.2.2.2.2.2.1, stays hb9 hHeld.2.2.2.2.2.2.2.2.2.1, stays hb9 hHeld.2.2.2.2.2.2.2.2.2.2.1, stays hb9 hHeld.2.2.2.2.2.2.2.2.2.2.2.1, HC2R.out _ (Below.trans hHeld.2.2.2.2.2.2.2.2.2.2.2.2.2.2 (hb9.mono (Below.size hHeld.2.2.2.2.2.2.2.2.2.2.2.2.2.2))), HC3R.out _ (Below.trans hHeld.2.2.2.2.2.2.2.2.2.2.2.2.2.2 (hb9.mono (Below.size hHeld.2.2.2.2.2.2.2.2.2.2.2.2.2.2))), Below.trans hHeld.2.2.2.2.2.2.2.2.2.2.2.2.2.2 (hb9.mono (Below.size hHeld.2.2.2.2.2.2.2.2.2.2.2.2.2.2))⟩ (fun hHeld => ?_)
        clear hK K
        try simp only [Act.put]
        try simp only [List.setIfInBounds_toArray]
        try simp only [List.set_cons_succ]
        try simp only [List.set_cons_zero]
        refine wpAnyH_take (i := 40) (oi := ?_) (v := ?_) ?_ (by kernel_rfl) (by kernel_rfl) (by kernel_rfl) ?_ (Or.inl ⟨?_, ?_⟩) (by assumption) ?_
        rotate_left 2
        focus (simp only [List.getElem?_toArray, List.getElem?_cons_succ, List.getElem?_cons_zero]; rfl)
        focus exact fun _ _ _ h => h
        focus rfl
        focus (intro W hS; (try dsimp only at hS); obtain ⟨x0, x1, x2, zz0, zz1, zz2, uu0, uu1, uu2, vv0, vv1, vv2, q2, q3, hbb⟩ := hS; go_simp; (try with_reducible rfl))
        try simp only [Act.put]
        try simp only [List.setIfInBounds_toArray]
        try simp only [List.set_cons_succ]
        try simp only [List.set_cons_zero]
        refine wpAnyH_take (i := 41) (oi := ?_) (v := ?_) ?_ (by kernel_rfl) (by kernel_rfl) (by kernel_rfl) ?_ (Or.inl ⟨?_, ?_⟩) (by assumption) ?_
        rotate_left 2
        focus (simp only [List.getElem?_toArray, List.getElem?_cons_succ, List.getElem?_cons_zero]; rfl)
        focus exact fun _ _ _ h => h
        focus rfl
        focus (intro W hS; (try dsimp only at hS); obtain ⟨x0, x1, x2, zz0, zz1, zz2, uu0, uu1, uu2, vv0, vv1, vv2, q2, q3, hbb⟩ := hS; go_simp; (try with_reducible rfl))
        try simp only [Act.put]
        try simp only [List.setIfInBounds_toArray]
        try simp only [List.set_cons_succ]
        try simp only [List.set_cons_zero]
        refine wpAnyH_take (i := 42) (oi := ?_) (v := ?_) ?_ (by kernel_rfl) (by kernel_rfl) (by kernel_rfl) ?_ (Or.inl ⟨?_, ?_⟩) (by assumption) ?_
        rotate_left 2
        focus (simp only [List.getElem?_toArray, List.getElem?_cons_succ, List.getElem?_cons_zero]; rfl)
        focus exact fun _ _ _ h => h
        focus rfl
        focus (intro W hS; (try dsimp only at hS); go_simp; (try with_reducible rfl))
        try simp only [Act.put]
        try simp only [List.setIfInBounds_toArray]
        try simp only [List.set_cons_succ]
        try simp only [List.set_cons_zero]
        refine wpAnyH_done (by kernel_rfl) ?_ _
        have hBW : Below wB.heap.size wB _ := hHeld.2.2.2.2.2.2.2.2.2.2.2.2.2.2
        go_wp2_with fail
        go_ret
        exact ⟨rfl, HBB.out.trans (hBW.mono HBB.out.size)⟩

end Go.Proofs.YtmfemedcjgeheaaGreatDoor
