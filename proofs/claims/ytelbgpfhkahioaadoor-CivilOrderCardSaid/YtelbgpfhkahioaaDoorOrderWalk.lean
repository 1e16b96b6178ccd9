/- The law CivilOrder: its walk. -/
import Derived.Test.YtelbgpfhkahioaaDoorCivilKnown
namespace Go.Proofs.YtelbgpfhkahioaaDoor
open Go.RowKit

theorem week_400 (p : Int) : Cal.week (p + 146097) = Cal.week p := by unfold Cal.week; omega
theorem week_7 (p : Int) : Cal.week (p - 7) = Cal.week p := by unfold Cal.week; omega
theorem dbm_year (y : Int) (h : Cal.leap y = true) : Cal.dbm y 12 = 366 := by rw [Cal.dbm_12, Cal.ylen, h]; rfl
theorem dbm_plain (y : Int) (h : Cal.leap y = false) : Cal.dbm y 12 = 365 := by rw [Cal.dbm_12, Cal.ylen, h]; rfl

set_option maxRecDepth 100000 in
set_option maxHeartbeats 4000000 in
theorem civilOrder_in (y m d y' m' d' : Int) (w : World) (hw : Mon w) (h : Cal.may y m d) (h' : Cal.may y' m' d') :
    Calls Tryd.prog 5 #[.int .i64 (Cal.num y m d), .int .i64 (Cal.num y' m' d')] w fun e w' => e = .returned (.bool true) ∧ Below w.heap.size w w' := by
  have hp := Cal.num_range h
  have hq := Cal.num_range h'
  have hlt := Cal.num_lt h h'
  have H1 : Hid (∀ w, Mon w → Calls Tryd.prog 15 #[.int .i64 (Cal.num y m d)] w fun e w' => e = .returned (.tuple #[.agg #[.int .i64 y, .int .i64 m, .int .i64 d], .int .i64 0]) ∧ Below w.heap.size w w') := fun w hw => of_in y m d w hw h
  have H2 : Hid (∀ w, Mon w → Calls Tryd.prog 15 #[.int .i64 (Cal.num y' m' d')] w fun e w' => e = .returned (.tuple #[.agg #[.int .i64 y', .int .i64 m', .int .i64 d'], .int .i64 0]) ∧ Below w.heap.size w w') := fun w hw => of_in y' m' d' w hw h'
  have HM : Hid (∀ W, Below w.heap.size w W → Mon W) := fun W h => hw.below h hw.1
  have hyr : 1970 ≤ y ∧ y ≤ 2399 := ⟨h.1, h.2.1⟩
  clear hw h h'
  generalize Cal.num y m d = p at *
  generalize Cal.num y' m' d' = q at *
  unfold Cal.less at hlt
  have HLT := Lib.hid hlt
  clear hlt
  go_enter Tryd.func5, Tryd.ntmps5
  go_wp2_with fail
  with_reducible refine (known_any _ (HM.out _ (Below.refl _ _))).mono ?_
  rintro e w0 ⟨rfl, b0⟩
  go_wp2_with fail
  with_reducible refine (H1.out _ (HM.out _ b0)).mono ?_
  rintro e w1 ⟨rfl, hb1⟩
  have b1 := b0.trans (hb1.mono b0.size)
  clear hb1 b0
  go_wp2_with fail
  have hrow2 : (w1.alloc (triple y m d)).heap[w1.heap.size]? = some (triple y m d) := heap_alloc_new w1 _
  have b2 : Below w.heap.size w (w1.alloc (triple y m d)) := b1.alloc b1.size _
  have hs2 : w1.heap.size < (w1.alloc (triple y m d)).heap.size := by simp
  unfold triple at hrow2 b2 hs2
  generalize w1.alloc (.cells #[.int .i64 y, .int .i64 m, .int .i64 d] 23) = w2 at *
  generalize w1.heap.size = g at *
  clear b1
  with_reducible refine (H2.out _ (HM.out _ b2)).mono ?_
  rintro e w3 ⟨rfl, hb3⟩
  have b3 := b2.trans (hb3.mono b2.size)
  have hrow3 : w3.heap[g]? = some (triple y m d) := (hb3.block _ hs2).trans hrow2
  have hs3 := Nat.lt_of_lt_of_le hs2 hb3.size
  clear hb3 b2 hrow2 hs2
  have b4 : Below w.heap.size w (w3.alloc (triple y' m' d')) := b3.alloc b3.size _
  have hrow4 : (w3.alloc (triple y' m' d')).heap[g]? = some (triple y m d) := (Below.heap_alloc _ _ _ hs3).trans hrow3
  have hs4 : g < (w3.alloc (triple y' m' d')).heap.size := by simp; omega
  unfold triple at b4 hrow4 hs4
  obtain ⟨c0, c1, c2⟩ := triple_cells hrow3
  clear hrow3 b3
  by_cases hy : y < y'
  · have hord : p < q := HLT.out.2 (by omega)
    go_wp2_with fail
    clear c0 c1 c2
    generalize w3.alloc (.cells #[.int .i64 y', .int .i64 m', .int .i64 d'] 23) = w4 at *
    go_loopw [10, 11] (fun n mo wr => ∃ k : Nat, k ≤ 12 ∧ mo = .int .i64 ((k : Int) + 1) ∧ n = .int .i64 (Cal.dbm y k) ∧ Below w.heap.size w wr ∧ wr.heap[g]? = some (triple y m d) ∧ g < wr.heap.size)
      (fun _ mo _ => (13 - intOf mo).toNat)
    case atStart => exact ⟨0, by omega, rfl, rfl, b4, hrow4, hs4⟩
    case round =>
      clear b4 hrow4 hs4
      obtain ⟨k, hk, rfl, rfl, hbel, hrow, hs⟩ := hrel
      obtain ⟨c0, -, -⟩ := triple_cells hrow
      by_cases hlast : k < 12
      · have hM := dbm_range y k (by omega)
        have HL := Lib.hid (fun w hw => long_any y ((k : Int) + 1) w hw)
        have hLr := Cal.long_pos (y := y) (m := (k : Int) + 1) (by omega)
        have HS : Hid (Cal.dbm y (k + 1) = Cal.dbm y k + Cal.long y ((k : Int) + 1)) := Eq.refl _
        obtain ⟨L, hL⟩ : ∃ L, L = Cal.long y ((k : Int) + 1) := ⟨_, rfl⟩
        rw [← hL] at HL hLr HS
        clear hL
        obtain ⟨M, hME⟩ : ∃ M, M = Cal.dbm y k := ⟨_, rfl⟩
        rw [← hME] at HS hM ⊢
        clear hME
        go_wp2_with fail
        with_reducible refine (HL.out _ (HM.out _ hbel)).mono ?_
        rintro e w5 ⟨rfl, hb5⟩
        have b5 := hbel.trans (hb5.mono hbel.size)
        have hrow5 := (hb5.block _ hs).trans hrow
        have hs5 := Nat.lt_of_lt_of_le hs hb5.size
        clear hb5 hbel hrow hs c0
        go_wp2_with fail
        go_roundw
        case rel => exact ⟨k + 1, by omega, by go_num, by rw [HS.out], b5, hrow5, hs5⟩
        case measure => simp [intOf]; omega
      · obtain rfl : k = 12 := by omega
        go_wp2_with fail
        with_reducible refine (leap_any y _).mono ?_
        rintro e w5 ⟨rfl, hb5⟩
        have b5 := hbel.trans (hb5.mono hbel.size)
        clear hb5 hbel hrow hs c0
        cases hl : Cal.leap y
        · rw [dbm_plain y hl]
          go_wp2_with fail
          with_reducible refine (week_any p _).mono ?_
          rintro e w6 ⟨rfl, hb6⟩
          have b6 := b5.trans (hb6.mono b5.size)
          go_wp2_with fail
          with_reducible refine (week_any (p + 146097) _).mono ?_
          rintro e w7 ⟨rfl, hb7⟩
          have b7 := b6.trans (hb7.mono b6.size)
          rw [week_400]
          go_wp2_with fail
          with_reducible refine (week_any p _).mono ?_
          rintro e w8 ⟨rfl, hb8⟩
          have b8 := b7.trans (hb8.mono b7.size)
          go_wp2_with fail
          with_reducible refine (week_any (p - 7) _).mono ?_
          rintro e w9 ⟨rfl, hb9⟩
          have b9 := b8.trans (hb9.mono b8.size)
          rw [week_7]
          go_wp2_with fail
          go_ret
          exact ⟨rfl, b9⟩
        · rw [dbm_year y hl]
          go_wp2_with fail
          with_reducible refine (week_any p _).mono ?_
          rintro e w6 ⟨rfl, hb6⟩
          have b6 := b5.trans (hb6.mono b5.size)
          go_wp2_with fail
          with_reducible refine (week_any (p + 146097) _).mono ?_
          rintro e w7 ⟨rfl, hb7⟩
          have b7 := b6.trans (hb7.mono b6.size)
          rw [week_400]
          go_wp2_with fail
          with_reducible refine (week_any p _).mono ?_
          rintro e w8 ⟨rfl, hb8⟩
          have b8 := b7.trans (hb8.mono b7.size)
          go_wp2_with fail
          with_reducible refine (week_any (p - 7) _).mono ?_
          rintro e w9 ⟨rfl, hb9⟩
          have b9 := b8.trans (hb9.mono b8.size)
          rw [week_7]
          go_wp2_with fail
          go_ret
          exact ⟨rfl, b9⟩
  · by_cases hy2 : y = y'
    · subst hy2
      by_cases hm : m < m'
      · have hord : p < q := HLT.out.2 (by omega)
        go_wp2_with fail
        clear c0 c1 c2
        generalize w3.alloc (.cells #[.int .i64 y, .int .i64 m', .int .i64 d'] 23) = w4 at *
        go_loopw [10, 11] (fun n mo wr => ∃ k : Nat, k ≤ 12 ∧ mo = .int .i64 ((k : Int) + 1) ∧ n = .int .i64 (Cal.dbm y k) ∧ Below w.heap.size w wr ∧ wr.heap[g]? = some (triple y m d) ∧ g < wr.heap.size)
          (fun _ mo _ => (13 - intOf mo).toNat)
        case atStart => exact ⟨0, by omega, rfl, rfl, b4, hrow4, hs4⟩
        case round =>
          clear b4 hrow4 hs4
          obtain ⟨k, hk, rfl, rfl, hbel, hrow, hs⟩ := hrel
          obtain ⟨c0, -, -⟩ := triple_cells hrow
          by_cases hlast : k < 12
          · have hM := dbm_range y k (by omega)
            have HL := Lib.hid (fun w hw => long_any y ((k : Int) + 1) w hw)
            have hLr := Cal.long_pos (y := y) (m := (k : Int) + 1) (by omega)
            have HS : Hid (Cal.dbm y (k + 1) = Cal.dbm y k + Cal.long y ((k : Int) + 1)) := Eq.refl _
            obtain ⟨L, hL⟩ : ∃ L, L = Cal.long y ((k : Int) + 1) := ⟨_, rfl⟩
            rw [← hL] at HL hLr HS
            clear hL
            obtain ⟨M, hME⟩ : ∃ M, M = Cal.dbm y k := ⟨_, rfl⟩
            rw [← hME] at HS hM ⊢
            clear hME
            go_wp2_with fail
            with_reducible refine (HL.out _ (HM.out _ hbel)).mono ?_
            rintro e w5 ⟨rfl, hb5⟩
            have b5 := hbel.trans (hb5.mono hbel.size)
            have hrow5 := (hb5.block _ hs).trans hrow
            have hs5 := Nat.lt_of_lt_of_le hs hb5.size
            clear hb5 hbel hrow hs c0
            go_wp2_with fail
            go_roundw
            case rel => exact ⟨k + 1, by omega, by go_num, by rw [HS.out], b5, hrow5, hs5⟩
            case measure => simp [intOf]; omega
          · obtain rfl : k = 12 := by omega
            go_wp2_with fail
            with_reducible refine (leap_any y _).mono ?_
            rintro e w5 ⟨rfl, hb5⟩
            have b5 := hbel.trans (hb5.mono hbel.size)
            clear hb5 hbel hrow hs c0
            cases hl : Cal.leap y
            · rw [dbm_plain y hl]
              go_wp2_with fail
              with_reducible refine (week_any p _).mono ?_
              rintro e w6 ⟨rfl, hb6⟩
              have b6 := b5.trans (hb6.mono b5.size)
              go_wp2_with fail
              with_reducible refine (week_any (p + 146097) _).mono ?_
              rintro e w7 ⟨rfl, hb7⟩
              have b7 := b6.trans (hb7.mono b6.size)
              rw [week_400]
              go_wp2_with fail
              with_reducible refine (week_any p _).mono ?_
              rintro e w8 ⟨rfl, hb8⟩
              have b8 := b7.trans (hb8.mono b7.size)
              go_wp2_with fail
              with_reducible refine (week_any (p - 7) _).mono ?_
              rintro e w9 ⟨rfl, hb9⟩
              have b9 := b8.trans (hb9.mono b8.size)
              rw [week_7]
              go_wp2_with fail
              go_ret
              exact ⟨rfl, b9⟩
            · rw [dbm_year y hl]
              go_wp2_with fail
              with_reducible refine (week_any p _).mono ?_
              rintro e w6 ⟨rfl, hb6⟩
              have b6 := b5.trans (hb6.mono b5.size)
              go_wp2_with fail
              with_reducible refine (week_any (p + 146097) _).mono ?_
              rintro e w7 ⟨rfl, hb7⟩
              have b7 := b6.trans (hb7.mono b6.size)
              rw [week_400]
              go_wp2_with fail
              with_reducible refine (week_any p _).mono ?_
              rintro e w8 ⟨rfl, hb8⟩
              have b8 := b7.trans (hb8.mono b7.size)
              go_wp2_with fail
              with_reducible refine (week_any (p - 7) _).mono ?_
              rintro e w9 ⟨rfl, hb9⟩
              have b9 := b8.trans (hb9.mono b8.size)
              rw [week_7]
              go_wp2_with fail
              go_ret
              exact ⟨rfl, b9⟩
      · by_cases hm2 : m = m'
        · subst hm2
          by_cases hd : d < d'
          · have hord : p < q := HLT.out.2 (by omega)
            go_wp2_with fail
            clear c0 c1 c2
            generalize w3.alloc (.cells #[.int .i64 y, .int .i64 m, .int .i64 d'] 23) = w4 at *
            go_loopw [10, 11] (fun n mo wr => ∃ k : Nat, k ≤ 12 ∧ mo = .int .i64 ((k : Int) + 1) ∧ n = .int .i64 (Cal.dbm y k) ∧ Below w.heap.size w wr ∧ wr.heap[g]? = some (triple y m d) ∧ g < wr.heap.size)
              (fun _ mo _ => (13 - intOf mo).toNat)
            case atStart => exact ⟨0, by omega, rfl, rfl, b4, hrow4, hs4⟩
            case round =>
              clear b4 hrow4 hs4
              obtain ⟨k, hk, rfl, rfl, hbel, hrow, hs⟩ := hrel
              obtain ⟨c0, -, -⟩ := triple_cells hrow
              by_cases hlast : k < 12
              · have hM := dbm_range y k (by omega)
                have HL := Lib.hid (fun w hw => long_any y ((k : Int) + 1) w hw)
                have hLr := Cal.long_pos (y := y) (m := (k : Int) + 1) (by omega)
                have HS : Hid (Cal.dbm y (k + 1) = Cal.dbm y k + Cal.long y ((k : Int) + 1)) := Eq.refl _
                obtain ⟨L, hL⟩ : ∃ L, L = Cal.long y ((k : Int) + 1) := ⟨_, rfl⟩
                rw [← hL] at HL hLr HS
                clear hL
                obtain ⟨M, hME⟩ : ∃ M, M = Cal.dbm y k := ⟨_, rfl⟩
                rw [← hME] at HS hM ⊢
                clear hME
                go_wp2_with fail
                with_reducible refine (HL.out _ (HM.out _ hbel)).mono ?_
                rintro e w5 ⟨rfl, hb5⟩
                have b5 := hbel.trans (hb5.mono hbel.size)
                have hrow5 := (hb5.block _ hs).trans hrow
                have hs5 := Nat.lt_of_lt_of_le hs hb5.size
                clear hb5 hbel hrow hs c0
                go_wp2_with fail
                go_roundw
                case rel => exact ⟨k + 1, by omega, by go_num, by rw [HS.out], b5, hrow5, hs5⟩
                case measure => simp [intOf]; omega
              · obtain rfl : k = 12 := by omega
                go_wp2_with fail
                with_reducible refine (leap_any y _).mono ?_
                rintro e w5 ⟨rfl, hb5⟩
                have b5 := hbel.trans (hb5.mono hbel.size)
                clear hb5 hbel hrow hs c0
                cases hl : Cal.leap y
                · rw [dbm_plain y hl]
                  go_wp2_with fail
                  with_reducible refine (week_any p _).mono ?_
                  rintro e w6 ⟨rfl, hb6⟩
                  have b6 := b5.trans (hb6.mono b5.size)
                  go_wp2_with fail
                  with_reducible refine (week_any (p + 146097) _).mono ?_
                  rintro e w7 ⟨rfl, hb7⟩
                  have b7 := b6.trans (hb7.mono b6.size)
                  rw [week_400]
                  go_wp2_with fail
                  with_reducible refine (week_any p _).mono ?_
                  rintro e w8 ⟨rfl, hb8⟩
                  have b8 := b7.trans (hb8.mono b7.size)
                  go_wp2_with fail
                  with_reducible refine (week_any (p - 7) _).mono ?_
                  rintro e w9 ⟨rfl, hb9⟩
                  have b9 := b8.trans (hb9.mono b8.size)
                  rw [week_7]
                  go_wp2_with fail
                  go_ret
                  exact ⟨rfl, b9⟩
                · rw [dbm_year y hl]
                  go_wp2_with fail
                  with_reducible refine (week_any p _).mono ?_
                  rintro e w6 ⟨rfl, hb6⟩
                  have b6 := b5.trans (hb6.mono b5.size)
                  go_wp2_with fail
                  with_reducible refine (week_any (p + 146097) _).mono ?_
                  rintro e w7 ⟨rfl, hb7⟩
                  have b7 := b6.trans (hb7.mono b6.size)
                  rw [week_400]
                  go_wp2_with fail
                  with_reducible refine (week_any p _).mono ?_
                  rintro e w8 ⟨rfl, hb8⟩
                  have b8 := b7.trans (hb8.mono b7.size)
                  go_wp2_with fail
                  with_reducible refine (week_any (p - 7) _).mono ?_
                  rintro e w9 ⟨rfl, hb9⟩
                  have b9 := b8.trans (hb9.mono b8.size)
                  rw [week_7]
                  go_wp2_with fail
                  go_ret
                  exact ⟨rfl, b9⟩
          · have hord : q ≤ p := by have := HLT.out; omega
            have hdq : decide (p < q) = false := by simp; omega
            go_wp2_with fail
            clear c0 c1 c2
            generalize w3.alloc (.cells #[.int .i64 y, .int .i64 m, .int .i64 d'] 23) = w4 at *
            go_loopw [10, 11] (fun n mo wr => ∃ k : Nat, k ≤ 12 ∧ mo = .int .i64 ((k : Int) + 1) ∧ n = .int .i64 (Cal.dbm y k) ∧ Below w.heap.size w wr ∧ wr.heap[g]? = some (triple y m d) ∧ g < wr.heap.size)
              (fun _ mo _ => (13 - intOf mo).toNat)
            case atStart => exact ⟨0, by omega, rfl, rfl, b4, hrow4, hs4⟩
            case round =>
              clear b4 hrow4 hs4
              obtain ⟨k, hk, rfl, rfl, hbel, hrow, hs⟩ := hrel
              obtain ⟨c0, -, -⟩ := triple_cells hrow
              by_cases hlast : k < 12
              · have hM := dbm_range y k (by omega)
                have HL := Lib.hid (fun w hw => long_any y ((k : Int) + 1) w hw)
                have hLr := Cal.long_pos (y := y) (m := (k : Int) + 1) (by omega)
                have HS : Hid (Cal.dbm y (k + 1) = Cal.dbm y k + Cal.long y ((k : Int) + 1)) := Eq.refl _
                obtain ⟨L, hL⟩ : ∃ L, L = Cal.long y ((k : Int) + 1) := ⟨_, rfl⟩
                rw [← hL] at HL hLr HS
                clear hL
                obtain ⟨M, hME⟩ : ∃ M, M = Cal.dbm y k := ⟨_, rfl⟩
                rw [← hME] at HS hM ⊢
                clear hME
                go_wp2_with fail
                with_reducible refine (HL.out _ (HM.out _ hbel)).mono ?_
                rintro e w5 ⟨rfl, hb5⟩
                have b5 := hbel.trans (hb5.mono hbel.size)
                have hrow5 := (hb5.block _ hs).trans hrow
                have hs5 := Nat.lt_of_lt_of_le hs hb5.size
                clear hb5 hbel hrow hs c0
                go_wp2_with fail
                go_roundw
                case rel => exact ⟨k + 1, by omega, by go_num, by rw [HS.out], b5, hrow5, hs5⟩
                case measure => simp [intOf]; omega
              · obtain rfl : k = 12 := by omega
                go_wp2_with fail
                with_reducible refine (leap_any y _).mono ?_
                rintro e w5 ⟨rfl, hb5⟩
                have b5 := hbel.trans (hb5.mono hbel.size)
                clear hb5 hbel hrow hs c0
                cases hl : Cal.leap y
                · rw [dbm_plain y hl]
                  go_wp2_with fail
                  with_reducible refine (week_any p _).mono ?_
                  rintro e w6 ⟨rfl, hb6⟩
                  have b6 := b5.trans (hb6.mono b5.size)
                  go_wp2_with fail
                  with_reducible refine (week_any (p + 146097) _).mono ?_
                  rintro e w7 ⟨rfl, hb7⟩
                  have b7 := b6.trans (hb7.mono b6.size)
                  rw [week_400]
                  go_wp2_with fail
                  with_reducible refine (week_any p _).mono ?_
                  rintro e w8 ⟨rfl, hb8⟩
                  have b8 := b7.trans (hb8.mono b7.size)
                  go_wp2_with fail
                  with_reducible refine (week_any (p - 7) _).mono ?_
                  rintro e w9 ⟨rfl, hb9⟩
                  have b9 := b8.trans (hb9.mono b8.size)
                  rw [week_7]
                  go_wp2_with fail
                  go_ret
                  exact ⟨rfl, b9⟩
                · rw [dbm_year y hl]
                  go_wp2_with fail
                  with_reducible refine (week_any p _).mono ?_
                  rintro e w6 ⟨rfl, hb6⟩
                  have b6 := b5.trans (hb6.mono b5.size)
                  go_wp2_with fail
                  with_reducible refine (week_any (p + 146097) _).mono ?_
                  rintro e w7 ⟨rfl, hb7⟩
                  have b7 := b6.trans (hb7.mono b6.size)
                  rw [week_400]
                  go_wp2_with fail
                  with_reducible refine (week_any p _).mono ?_
                  rintro e w8 ⟨rfl, hb8⟩
                  have b8 := b7.trans (hb8.mono b7.size)
                  go_wp2_with fail
                  with_reducible refine (week_any (p - 7) _).mono ?_
                  rintro e w9 ⟨rfl, hb9⟩
                  have b9 := b8.trans (hb9.mono b8.size)
                  rw [week_7]
                  go_wp2_with fail
                  go_ret
                  exact ⟨rfl, b9⟩
        · have hord : q ≤ p := by have := HLT.out; omega
          have hdq : decide (p < q) = false := by simp; omega
          go_wp2_with fail
          clear c0 c1 c2
          generalize w3.alloc (.cells #[.int .i64 y, .int .i64 m', .int .i64 d'] 23) = w4 at *
          go_loopw [10, 11] (fun n mo wr => ∃ k : Nat, k ≤ 12 ∧ mo = .int .i64 ((k : Int) + 1) ∧ n = .int .i64 (Cal.dbm y k) ∧ Below w.heap.size w wr ∧ wr.heap[g]? = some (triple y m d) ∧ g < wr.heap.size)
            (fun _ mo _ => (13 - intOf mo).toNat)
          case atStart => exact ⟨0, by omega, rfl, rfl, b4, hrow4, hs4⟩
          case round =>
            clear b4 hrow4 hs4
            obtain ⟨k, hk, rfl, rfl, hbel, hrow, hs⟩ := hrel
            obtain ⟨c0, -, -⟩ := triple_cells hrow
            by_cases hlast : k < 12
            · have hM := dbm_range y k (by omega)
              have HL := Lib.hid (fun w hw => long_any y ((k : Int) + 1) w hw)
              have hLr := Cal.long_pos (y := y) (m := (k : Int) + 1) (by omega)
              have HS : Hid (Cal.dbm y (k + 1) = Cal.dbm y k + Cal.long y ((k : Int) + 1)) := Eq.refl _
              obtain ⟨L, hL⟩ : ∃ L, L = Cal.long y ((k : Int) + 1) := ⟨_, rfl⟩
              rw [← hL] at HL hLr HS
              clear hL
              obtain ⟨M, hME⟩ : ∃ M, M = Cal.dbm y k := ⟨_, rfl⟩
              rw [← hME] at HS hM ⊢
              clear hME
              go_wp2_with fail
              with_reducible refine (HL.out _ (HM.out _ hbel)).mono ?_
              rintro e w5 ⟨rfl, hb5⟩
              have b5 := hbel.trans (hb5.mono hbel.size)
              have hrow5 := (hb5.block _ hs).trans hrow
              have hs5 := Nat.lt_of_lt_of_le hs hb5.size
              clear hb5 hbel hrow hs c0
              go_wp2_with fail
              go_roundw
              case rel => exact ⟨k + 1, by omega, by go_num, by rw [HS.out], b5, hrow5, hs5⟩
              case measure => simp [intOf]; omega
            · obtain rfl : k = 12 := by omega
              go_wp2_with fail
              with_reducible refine (leap_any y _).mono ?_
              rintro e w5 ⟨rfl, hb5⟩
              have b5 := hbel.trans (hb5.mono hbel.size)
              clear hb5 hbel hrow hs c0
              cases hl : Cal.leap y
              · rw [dbm_plain y hl]
                go_wp2_with fail
                with_reducible refine (week_any p _).mono ?_
                rintro e w6 ⟨rfl, hb6⟩
                have b6 := b5.trans (hb6.mono b5.size)
                go_wp2_with fail
                with_reducible refine (week_any (p + 146097) _).mono ?_
                rintro e w7 ⟨rfl, hb7⟩
                have b7 := b6.trans (hb7.mono b6.size)
                rw [week_400]
                go_wp2_with fail
                with_reducible refine (week_any p _).mono ?_
                rintro e w8 ⟨rfl, hb8⟩
                have b8 := b7.trans (hb8.mono b7.size)
                go_wp2_with fail
                with_reducible refine (week_any (p - 7) _).mono ?_
                rintro e w9 ⟨rfl, hb9⟩
                have b9 := b8.trans (hb9.mono b8.size)
                rw [week_7]
                go_wp2_with fail
                go_ret
                exact ⟨rfl, b9⟩
              · rw [dbm_year y hl]
                go_wp2_with fail
                with_reducible refine (week_any p _).mono ?_
                rintro e w6 ⟨rfl, hb6⟩
                have b6 := b5.trans (hb6.mono b5.size)
                go_wp2_with fail
                with_reducible refine (week_any (p + 146097) _).mono ?_
                rintro e w7 ⟨rfl, hb7⟩
                have b7 := b6.trans (hb7.mono b6.size)
                rw [week_400]
                go_wp2_with fail
                with_reducible refine (week_any p _).mono ?_
                rintro e w8 ⟨rfl, hb8⟩
                have b8 := b7.trans (hb8.mono b7.size)
                go_wp2_with fail
                with_reducible refine (week_any (p - 7) _).mono ?_
                rintro e w9 ⟨rfl, hb9⟩
                have b9 := b8.trans (hb9.mono b8.size)
                rw [week_7]
                go_wp2_with fail
                go_ret
                exact ⟨rfl, b9⟩
    · have hord : q ≤ p := by have := HLT.out; omega
      have hdq : decide (p < q) = false := by simp; omega
      go_wp2_with fail
      clear c0 c1 c2
      generalize w3.alloc (.cells #[.int .i64 y', .int .i64 m', .int .i64 d'] 23) = w4 at *
      go_loopw [10, 11] (fun n mo wr => ∃ k : Nat, k ≤ 12 ∧ mo = .int .i64 ((k : Int) + 1) ∧ n = .int .i64 (Cal.dbm y k) ∧ Below w.heap.size w wr ∧ wr.heap[g]? = some (triple y m d) ∧ g < wr.heap.size)
        (fun _ mo _ => (13 - intOf mo).toNat)
      case atStart => exact ⟨0, by omega, rfl, rfl, b4, hrow4, hs4⟩
      case round =>
        clear b4 hrow4 hs4
        obtain ⟨k, hk, rfl, rfl, hbel, hrow, hs⟩ := hrel
        obtain ⟨c0, -, -⟩ := triple_cells hrow
        by_cases hlast : k < 12
        · have hM := dbm_range y k (by omega)
          have HL := Lib.hid (fun w hw => long_any y ((k : Int) + 1) w hw)
          have hLr := Cal.long_pos (y := y) (m := (k : Int) + 1) (by omega)
          have HS : Hid (Cal.dbm y (k + 1) = Cal.dbm y k + Cal.long y ((k : Int) + 1)) := Eq.refl _
          obtain ⟨L, hL⟩ : ∃ L, L = Cal.long y ((k : Int) + 1) := ⟨_, rfl⟩
          rw [← hL] at HL hLr HS
          clear hL
          obtain ⟨M, hME⟩ : ∃ M, M = Cal.dbm y k := ⟨_, rfl⟩
          rw [← hME] at HS hM ⊢
          clear hME
          go_wp2_with fail
          with_reducible refine (HL.out _ (HM.out _ hbel)).mono ?_
          rintro e w5 ⟨rfl, hb5⟩
          have b5 := hbel.trans (hb5.mono hbel.size)
          have hrow5 := (hb5.block _ hs).trans hrow
          have hs5 := Nat.lt_of_lt_of_le hs hb5.size
          clear hb5 hbel hrow hs c0
          go_wp2_with fail
          go_roundw
          case rel => exact ⟨k + 1, by omega, by go_num, by rw [HS.out], b5, hrow5, hs5⟩
          case measure => simp [intOf]; omega
        · obtain rfl : k = 12 := by omega
          go_wp2_with fail
          with_reducible refine (leap_any y _).mono ?_
          rintro e w5 ⟨rfl, hb5⟩
          have b5 := hbel.trans (hb5.mono hbel.size)
          clear hb5 hbel hrow hs c0
          cases hl : Cal.leap y
          · rw [dbm_plain y hl]
            go_wp2_with fail
            with_reducible refine (week_any p _).mono ?_
            rintro e w6 ⟨rfl, hb6⟩
            have b6 := b5.trans (hb6.mono b5.size)
            go_wp2_with fail
            with_reducible refine (week_any (p + 146097) _).mono ?_
            rintro e w7 ⟨rfl, hb7⟩
            have b7 := b6.trans (hb7.mono b6.size)
            rw [week_400]
            go_wp2_with fail
            with_reducible refine (week_any p _).mono ?_
            rintro e w8 ⟨rfl, hb8⟩
            have b8 := b7.trans (hb8.mono b7.size)
            go_wp2_with fail
            with_reducible refine (week_any (p - 7) _).mono ?_
            rintro e w9 ⟨rfl, hb9⟩
            have b9 := b8.trans (hb9.mono b8.size)
            rw [week_7]
            go_wp2_with fail
            go_ret
            exact ⟨rfl, b9⟩
          · rw [dbm_year y hl]
            go_wp2_with fail
            with_reducible refine (week_any p _).mono ?_
            rintro e w6 ⟨rfl, hb6⟩
            have b6 := b5.trans (hb6.mono b5.size)
            go_wp2_with fail
            with_reducible refine (week_any (p + 146097) _).mono ?_
            rintro e w7 ⟨rfl, hb7⟩
            have b7 := b6.trans (hb7.mono b6.size)
            rw [week_400]
            go_wp2_with fail
            with_reducible refine (week_any p _).mono ?_
            rintro e w8 ⟨rfl, hb8⟩
            have b8 := b7.trans (hb8.mono b7.size)
            go_wp2_with fail
            with_reducible refine (week_any (p - 7) _).mono ?_
            rintro e w9 ⟨rfl, hb9⟩
            have b9 := b8.trans (hb9.mono b8.size)
            rw [week_7]
            go_wp2_with fail
            go_ret
            exact ⟨rfl, b9⟩

set_option maxRecDepth 100000 in
set_option maxHeartbeats 1000000 in
theorem civilOrder_out (p q : Int) (w : World) (hw : Mon w) (h : ¬ (0 ≤ p ∧ p < 157054 ∧ 0 ≤ q ∧ q < 157054)) :
    Calls Tryd.prog 5 #[.int .i64 p, .int .i64 q] w fun e w' => e = .returned (.bool true) ∧ Below w.heap.size w w' := by
  by_cases h1 : p < 0
  · go_enter Tryd.func5, Tryd.ntmps5
    go_wp2_with fail
    with_reducible refine (known_any _ hw).mono ?_
    rintro e w0 ⟨rfl, b0⟩
    go_wp2_with fail
    go_ret
    exact ⟨rfl, b0⟩
  · by_cases h2 : q < 0
    · go_enter Tryd.func5, Tryd.ntmps5
      go_wp2_with fail
      with_reducible refine (known_any _ hw).mono ?_
      rintro e w0 ⟨rfl, b0⟩
      go_wp2_with fail
      go_ret
      exact ⟨rfl, b0⟩
    · by_cases h3 : 157054 ≤ p
      · go_enter Tryd.func5, Tryd.ntmps5
        go_wp2_with fail
        with_reducible refine (known_any _ hw).mono ?_
        rintro e w0 ⟨rfl, b0⟩
        go_wp2_with fail
        go_ret
        exact ⟨rfl, b0⟩
      · have h4 : 157054 ≤ q := by omega
        go_enter Tryd.func5, Tryd.ntmps5
        go_wp2_with fail
        with_reducible refine (known_any _ hw).mono ?_
        rintro e w0 ⟨rfl, b0⟩
        go_wp2_with fail
        go_ret
        exact ⟨rfl, b0⟩

theorem civilOrder_any (p q : Int) (w : World) (hw : Mon w) :
    Calls Tryd.prog 5 #[.int .i64 p, .int .i64 q] w fun e w' => e = .returned (.bool true) ∧ Below w.heap.size w w' := by
  by_cases h : 0 ≤ p ∧ p < 157054 ∧ 0 ≤ q ∧ q < 157054
  · obtain ⟨y, m, d, h1, rfl⟩ := Cal.num_onto p h.1 h.2.1
    obtain ⟨y', m', d', h2, rfl⟩ := Cal.num_onto q h.2.2.1 h.2.2.2
    exact civilOrder_in y m d y' m' d' w hw h1 h2
  · exact civilOrder_out p q w hw h
end Go.Proofs.YtelbgpfhkahioaaDoor
