/- The reference's Of, by its contract. -/
import Derived.Test.YtoghalmjbbkjhaaGreatDoorCOf
namespace Go.Proofs.YtoghalmjbbkjhaaGreatDoor.Civ
open Go.RowKit

theorem ylen_next (k : Nat) : Cal.dby (k + 1) = Cal.dby k + Cal.ylen (1970 + (k : Int)) := rfl

set_option maxRecDepth 100000 in
set_option maxHeartbeats 1000000 in
theorem refOf_in (y m d : Int) (w : World) (hmay : Cal.may y m d) :
    Calls Tryz.prog 70 #[.int .i64 (Cal.num y m d)] w fun e w' => e = .returned (.tuple #[.agg #[.int .i64 y, .int .i64 m, .int .i64 d], .int .i64 0]) ∧ Below w.heap.size w w' := by
  obtain ⟨j, k0, hj, hk0, hy, hm, hn, hlo, hhi⟩ := Cal.num_parts hmay
  have hr := Cal.num_range hmay
  generalize Cal.num y m d = n at *
  obtain ⟨hd1, hd2⟩ := hmay.2.2
  have hlong := (Cal.long_pos (y := y) (m := m) (Cal.may_month hmay)).2
  obtain ⟨D, hD⟩ : ∃ D, D = Cal.dby j := ⟨_, rfl⟩
  have hDr := dby_range j (by omega)
  rw [← hD] at hn hlo hDr
  have HD := Lib.hid hD
  have HHI := Lib.hid hhi
  have HLO := Lib.hid hlo
  have HNE := Lib.hid hn
  have HK : Hid (m = (k0 : Int) + 1) := hm
  have HD2 := Lib.hid hd2
  have HYJ : Hid (y = 1970 + (j : Int)) := hy
  have hyr : 1970 ≤ y ∧ y ≤ 2399 := by omega
  have hdr : 1 ≤ d ∧ d ≤ 31 := by omega
  clear hD hhi hlo hmay hn hm hd1 hd2 hlong hy
  have hrow0 : (w.alloc (Obj.cells #[Value.int IntKind.i64 0, Value.int IntKind.i64 0, Value.int IntKind.i64 0] 47)).heap[w.heap.size]? = some (triple 0 0 0) := heap_alloc_new w _
  have hbel0 : Below w.heap.size w (w.alloc (Obj.cells #[Value.int IntKind.i64 0, Value.int IntKind.i64 0, Value.int IntKind.i64 0] 47)) := (Below.refl _ _).alloc (Nat.le_refl _) _
  have hs0 : w.heap.size < (w.alloc (Obj.cells #[Value.int IntKind.i64 0, Value.int IntKind.i64 0, Value.int IntKind.i64 0] 47)).heap.size := by simp
  go_enter Tryz.func70, Tryz.ntmps70
  go_wp2_with fail
  generalize (w.alloc (Obj.cells #[Value.int IntKind.i64 0, Value.int IntKind.i64 0, Value.int IntKind.i64 0] 47)) = W at *
  generalize hB : w.heap.size = B at *
  go_loopw [0, 4, 5] (fun le yr lg wr => ∃ k : Nat, k ≤ j ∧ yr = .int .i64 (1970 + (k : Int)) ∧ le = .int .i64 (n - Cal.dby k) ∧ Below B w wr ∧ wr.heap[B]? = some (triple 0 0 0) ∧ B < wr.heap.size)
    (fun _ yr _ _ => (3000 - intOf yr).toNat)
  case atStart => exact ⟨0, by omega, rfl, by rw [show Cal.dby 0 = 0 by rfl]; congr 1; omega, hbel0, hrow0, hs0⟩
  case round =>
    clear hrow0 hbel0 hs0
    obtain ⟨k, hk, rfl, rfl, hbel, hrow, hs⟩ := hrel
    have hDk := dby_range k (by omega)
    have HNX := Lib.hid (ylen_next k)
    obtain ⟨E, hE⟩ : ∃ E, E = Cal.dby k := ⟨_, rfl⟩
    have hcase : if k < j then Cal.ylen (1970 + (k : Int)) ≤ n - E else n - E < Cal.ylen (1970 + (k : Int)) := by
      rw [hE]
      by_cases hlt : k < j
      · have h1 := Cal.dby_next hlt
        have h2 := HLO.out
        rw [HD.out] at h2
        rw [if_pos hlt]
        omega
      · have h2 := HHI.out
        obtain rfl : k = j := by omega
        rw [ylen_next] at h2
        rw [if_neg hlt]
        omega
    have hED : ¬ k < j → Hid (E = D) := by
      intro h
      obtain rfl : k = j := by omega
      exact hE.trans HD.out.symm
    rw [← hE] at HNX hDk ⊢
    clear hE
    go_wp2_with fail
    with_reducible refine (refLeap_any (1970 + (k : Int)) _).mono ?_
    rintro e w1 ⟨rfl, hb1⟩
    have hbel1 := hbel.trans (hb1.mono (Nat.le_of_lt hs))
    have hrow1 := (hb1.block _ hs).trans hrow
    have hs1 := Nat.lt_of_lt_of_le hs hb1.size
    clear hb1 hbel hrow hs
    cases hl : Cal.leap (1970 + (k : Int))
    · have HY : Hid (Cal.ylen (1970 + (k : Int)) = 365) := by
        show _ = _
        rw [Cal.ylen, hl]
        rfl
      rw [HY.out] at hcase HNX
      by_cases hlt : k < j
      · rw [if_pos hlt] at hcase
        go_wp2_with fail
        go_roundw
        case rel => exact ⟨k + 1, by omega, by go_num, by rw [HNX.out]; congr 1; omega, hbel1, hrow1, hs1⟩
        case measure => simp [intOf]; omega
      · rw [if_neg hlt] at hcase
        have HED := hED hlt
        have HKJ : Hid (k = j) := by show _ = _; omega
        go_wp2_with fail
        have HYK : Hid (1970 + (k : Int) = y) := by show _ = _; have h1 := HYJ.out; have h2 := HKJ.out; omega
        try rw [HYK.out]
        try rw [HED.out]
        have hx1 : Below B w w1 := hbel1
        clear hcase hED HNX hDk hl HY
        go_loopw [0, 6] (fun le mo wr => ∃ k : Nat, k ≤ k0 ∧ mo = .int .i64 ((k : Int) + 1) ∧ le = .int .i64 (n - D - Cal.dbm y k) ∧ Below B w wr ∧ wr.heap[B]? = some (triple 0 0 0) ∧ B < wr.heap.size)
          (fun _ mo _ => (13 - intOf mo).toNat)
        case atStart => exact ⟨0, by omega, rfl, by rw [show Cal.dbm y 0 = 0 by rfl]; congr 1; omega, hbel1, hrow1, hs1⟩
        case round =>
          clear hbel1 hrow1 hs1 hx1
          obtain ⟨k, hk, rfl, rfl, hbel, hrow, hs⟩ := hrel
          have hM := dbm_range y k (by omega)
          have HL := Lib.hid (fun w => refLong_any y ((k : Int) + 1) w)
          have hLr := Cal.long_pos (y := y) (m := (k : Int) + 1) (by omega)
          have HS : Hid (Cal.dbm y (k + 1) = Cal.dbm y k + Cal.long y ((k : Int) + 1)) := Eq.refl _
          have hcase : if k < k0 then Cal.long y ((k : Int) + 1) ≤ n - D - Cal.dbm y k else n - D - Cal.dbm y k < Cal.long y ((k : Int) + 1) ∧ n - D - Cal.dbm y k + 1 = d := by
            have h1 := HNE.out
            by_cases hlt : k < k0
            · have h2 := Cal.dbm_next y hlt (by omega)
              rw [if_pos hlt]
              omega
            · have h3 := HD2.out
              rw [HK.out] at h3
              obtain rfl : k = k0 := by omega
              rw [if_neg (by omega)]
              omega
          obtain ⟨L, hL⟩ : ∃ L, L = Cal.long y ((k : Int) + 1) := ⟨_, rfl⟩
          rw [← hL] at HL hLr HS hcase
          clear hL
          obtain ⟨M, hME⟩ : ∃ M, M = Cal.dbm y k := ⟨_, rfl⟩
          rw [← hME] at HS hM hcase ⊢
          clear hME
          go_wp2_with fail
          with_reducible refine (HL.out _).mono ?_
          rintro e w3 ⟨rfl, hb3⟩
          have hbel3 := hbel.trans (hb3.mono (Nat.le_of_lt hs))
          have hrow3 := (hb3.block _ hs).trans hrow
          have hs3 := Nat.lt_of_lt_of_le hs hb3.size
          clear hb3 hbel hrow hs
          by_cases hlt : k < k0
          · rw [if_pos hlt] at hcase
            go_wp2_with fail
            with_reducible refine (HL.out _).mono ?_
            rintro e w4 ⟨rfl, hb4⟩
            have hbel4 := hbel3.trans (hb4.mono (Nat.le_of_lt hs3))
            have hrow4 := (hb4.block _ hs3).trans hrow3
            have hs4 := Nat.lt_of_lt_of_le hs3 hb4.size
            go_wp2_with fail
            go_roundw
            case rel => exact ⟨k + 1, by omega, by go_num, by rw [HS.out]; congr 1; omega, hbel4, hrow4, hs4⟩
            case measure => simp [intOf]; omega
          · rw [if_neg hlt] at hcase
            have hcl := hcase.1
            have HCD := Lib.hid hcase.2
            have hkk : k = k0 := by omega
            clear hcase
            obtain ⟨c0, c1, c2⟩ := triple_cells hrow3
            have f0 := triple_free hrow3 0
            have f1 := triple_free hrow3 1
            have f2 := triple_free hrow3 2
            go_wp2_with fail
            have hb5 := wrote_below (y := y) (m := (k0 : Int) + 1) (d := n - D - M + 1) hbel3
            have hr5 := wrote_row (y := y) (m := (k0 : Int) + 1) (d := n - D - M + 1) hrow3
            unfold wrote at hb5 hr5
            generalize ((w3.setCell ⟨B, 0, none⟩ (.int .i64 y)).setCell ⟨B, 1, none⟩ (.int .i64 ((k0 : Int) + 1))).setCell ⟨B, 2, none⟩ (.int .i64 (n - D - M + 1)) = w5 at *
            obtain ⟨d0, d1, d2⟩ := triple_cells hr5
            refine bodyPost_ret (v := .tuple #[.agg #[.int .i64 y, .int .i64 ((k0 : Int) + 1), .int .i64 (n - D - M + 1)], .int .i64 0]) (by simp [results, Tryz.results70, go_sem, d0, d1, d2]) rfl ⟨?_, by rw [hB]; exact hb5⟩
            rw [HCD.out, ← HK.out]
    · have HY : Hid (Cal.ylen (1970 + (k : Int)) = 366) := by
        show _ = _
        rw [Cal.ylen, hl]
        rfl
      rw [HY.out] at hcase HNX
      by_cases hlt : k < j
      · rw [if_pos hlt] at hcase
        go_wp2_with fail
        go_roundw
        case rel => exact ⟨k + 1, by omega, by go_num, by rw [HNX.out]; congr 1; omega, hbel1, hrow1, hs1⟩
        case measure => simp [intOf]; omega
      · rw [if_neg hlt] at hcase
        have HED := hED hlt
        have HKJ : Hid (k = j) := by show _ = _; omega
        go_wp2_with fail
        have HYK : Hid (1970 + (k : Int) = y) := by show _ = _; have h1 := HYJ.out; have h2 := HKJ.out; omega
        try rw [HYK.out]
        try rw [HED.out]
        have hx1 : Below B w w1 := hbel1
        clear hcase hED HNX hDk hl HY
        go_loopw [0, 6] (fun le mo wr => ∃ k : Nat, k ≤ k0 ∧ mo = .int .i64 ((k : Int) + 1) ∧ le = .int .i64 (n - D - Cal.dbm y k) ∧ Below B w wr ∧ wr.heap[B]? = some (triple 0 0 0) ∧ B < wr.heap.size)
          (fun _ mo _ => (13 - intOf mo).toNat)
        case atStart => exact ⟨0, by omega, rfl, by rw [show Cal.dbm y 0 = 0 by rfl]; congr 1; omega, hbel1, hrow1, hs1⟩
        case round =>
          clear hbel1 hrow1 hs1 hx1
          obtain ⟨k, hk, rfl, rfl, hbel, hrow, hs⟩ := hrel
          have hM := dbm_range y k (by omega)
          have HL := Lib.hid (fun w => refLong_any y ((k : Int) + 1) w)
          have hLr := Cal.long_pos (y := y) (m := (k : Int) + 1) (by omega)
          have HS : Hid (Cal.dbm y (k + 1) = Cal.dbm y k + Cal.long y ((k : Int) + 1)) := Eq.refl _
          have hcase : if k < k0 then Cal.long y ((k : Int) + 1) ≤ n - D - Cal.dbm y k else n - D - Cal.dbm y k < Cal.long y ((k : Int) + 1) ∧ n - D - Cal.dbm y k + 1 = d := by
            have h1 := HNE.out
            by_cases hlt : k < k0
            · have h2 := Cal.dbm_next y hlt (by omega)
              rw [if_pos hlt]
              omega
            · have h3 := HD2.out
              rw [HK.out] at h3
              obtain rfl : k = k0 := by omega
              rw [if_neg (by omega)]
              omega
          obtain ⟨L, hL⟩ : ∃ L, L = Cal.long y ((k : Int) + 1) := ⟨_, rfl⟩
          rw [← hL] at HL hLr HS hcase
          clear hL
          obtain ⟨M, hME⟩ : ∃ M, M = Cal.dbm y k := ⟨_, rfl⟩
          rw [← hME] at HS hM hcase ⊢
          clear hME
          go_wp2_with fail
          with_reducible refine (HL.out _).mono ?_
          rintro e w3 ⟨rfl, hb3⟩
          have hbel3 := hbel.trans (hb3.mono (Nat.le_of_lt hs))
          have hrow3 := (hb3.block _ hs).trans hrow
          have hs3 := Nat.lt_of_lt_of_le hs hb3.size
          clear hb3 hbel hrow hs
          by_cases hlt : k < k0
          · rw [if_pos hlt] at hcase
            go_wp2_with fail
            with_reducible refine (HL.out _).mono ?_
            rintro e w4 ⟨rfl, hb4⟩
            have hbel4 := hbel3.trans (hb4.mono (Nat.le_of_lt hs3))
            have hrow4 := (hb4.block _ hs3).trans hrow3
            have hs4 := Nat.lt_of_lt_of_le hs3 hb4.size
            go_wp2_with fail
            go_roundw
            case rel => exact ⟨k + 1, by omega, by go_num, by rw [HS.out]; congr 1; omega, hbel4, hrow4, hs4⟩
            case measure => simp [intOf]; omega
          · rw [if_neg hlt] at hcase
            have hcl := hcase.1
            have HCD := Lib.hid hcase.2
            have hkk : k = k0 := by omega
            clear hcase
            obtain ⟨c0, c1, c2⟩ := triple_cells hrow3
            have f0 := triple_free hrow3 0
            have f1 := triple_free hrow3 1
            have f2 := triple_free hrow3 2
            go_wp2_with fail
            have hb5 := wrote_below (y := y) (m := (k0 : Int) + 1) (d := n - D - M + 1) hbel3
            have hr5 := wrote_row (y := y) (m := (k0 : Int) + 1) (d := n - D - M + 1) hrow3
            unfold wrote at hb5 hr5
            generalize ((w3.setCell ⟨B, 0, none⟩ (.int .i64 y)).setCell ⟨B, 1, none⟩ (.int .i64 ((k0 : Int) + 1))).setCell ⟨B, 2, none⟩ (.int .i64 (n - D - M + 1)) = w5 at *
            obtain ⟨d0, d1, d2⟩ := triple_cells hr5
            refine bodyPost_ret (v := .tuple #[.agg #[.int .i64 y, .int .i64 ((k0 : Int) + 1), .int .i64 (n - D - M + 1)], .int .i64 0]) (by simp [results, Tryz.results70, go_sem, d0, d1, d2]) rfl ⟨?_, by rw [hB]; exact hb5⟩
            rw [HCD.out, ← HK.out]

set_option maxRecDepth 100000 in
set_option maxHeartbeats 1000000 in
theorem refOf_out (n : Int) (w : World) (hn : n < 0 ∨ 157054 ≤ n) (hmax : n ≤ 9223372036854775807) :
    Calls Tryz.prog 70 #[.int .i64 n] w fun e w' => e = .returned (.tuple #[.agg #[.int .i64 0, .int .i64 0, .int .i64 0], .int .i64 2]) ∧ Below w.heap.size w w' := by
  have hrow0 : (w.alloc (Obj.cells #[Value.int IntKind.i64 0, Value.int IntKind.i64 0, Value.int IntKind.i64 0] 47)).heap[w.heap.size]? = some (triple 0 0 0) := heap_alloc_new w _
  have hbel0 : Below w.heap.size w (w.alloc (Obj.cells #[Value.int IntKind.i64 0, Value.int IntKind.i64 0, Value.int IntKind.i64 0] 47)) := (Below.refl _ _).alloc (Nat.le_refl _) _
  have hs0 : w.heap.size < (w.alloc (Obj.cells #[Value.int IntKind.i64 0, Value.int IntKind.i64 0, Value.int IntKind.i64 0] 47)).heap.size := by simp
  by_cases h : n < 0
  · go_enter Tryz.func70, Tryz.ntmps70
    go_wp2_with fail
    refine bodyPost_ret (v := .tuple #[.agg #[.int .i64 0, .int .i64 0, .int .i64 0], .int .i64 2]) (by simp [results, Tryz.results70, go_sem]) rfl ⟨rfl, hbel0⟩
  · have hge : 157054 ≤ n := by omega
    clear hn h
    go_enter Tryz.func70, Tryz.ntmps70
    go_wp2_with fail
    generalize (w.alloc (Obj.cells #[Value.int IntKind.i64 0, Value.int IntKind.i64 0, Value.int IntKind.i64 0] 47)) = W at *
    generalize hB : w.heap.size = B at *
    go_loopw [0, 4, 5] (fun le yr lg wr => ∃ k : Nat, k ≤ 430 ∧ yr = .int .i64 (1970 + (k : Int)) ∧ le = .int .i64 (n - Cal.dby k) ∧ Below B w wr ∧ wr.heap[B]? = some (triple 0 0 0) ∧ B < wr.heap.size)
      (fun _ yr _ _ => (3000 - intOf yr).toNat)
    case atStart => exact ⟨0, by omega, rfl, by rw [show Cal.dby 0 = 0 by rfl]; congr 1; omega, hbel0, hrow0, hs0⟩
    case round =>
      clear hrow0 hbel0 hs0
      obtain ⟨k, hk, rfl, rfl, hbel, hrow, hs⟩ := hrel
      have hDk := dby_range k (by omega)
      have HNX := Lib.hid (ylen_next k)
      have hcase : k < 430 → Cal.ylen (1970 + (k : Int)) ≤ n - Cal.dby k := by
        intro hlt
        have h1 := Cal.dby_next hlt
        have h2 := Cal.dby_430
        omega
      obtain ⟨E, hE⟩ : ∃ E, E = Cal.dby k := ⟨_, rfl⟩
      rw [← hE] at HNX hDk hcase ⊢
      clear hE
      by_cases hlt : k < 430
      · have hcase := hcase hlt
        go_wp2_with fail
        with_reducible refine (refLeap_any (1970 + (k : Int)) _).mono ?_
        rintro e w1 ⟨rfl, hb1⟩
        have hbel1 := hbel.trans (hb1.mono (Nat.le_of_lt hs))
        have hrow1 := (hb1.block _ hs).trans hrow
        have hs1 := Nat.lt_of_lt_of_le hs hb1.size
        clear hb1 hbel hrow hs
        cases hl : Cal.leap (1970 + (k : Int))
        · have HY : Hid (Cal.ylen (1970 + (k : Int)) = 365) := by
            show _ = _
            rw [Cal.ylen, hl]
            rfl
          rw [HY.out] at hcase HNX
          go_wp2_with fail
          go_roundw
          case rel => exact ⟨k + 1, by omega, by go_num, by rw [HNX.out]; congr 1; omega, hbel1, hrow1, hs1⟩
          case measure => simp [intOf]; omega
        · have HY : Hid (Cal.ylen (1970 + (k : Int)) = 366) := by
            show _ = _
            rw [Cal.ylen, hl]
            rfl
          rw [HY.out] at hcase HNX
          go_wp2_with fail
          go_roundw
          case rel => exact ⟨k + 1, by omega, by go_num, by rw [HNX.out]; congr 1; omega, hbel1, hrow1, hs1⟩
          case measure => simp [intOf]; omega
      · clear hcase
        obtain ⟨c0, c1, c2⟩ := triple_cells hrow
        have f0 := triple_free hrow 0
        have f1 := triple_free hrow 1
        have f2 := triple_free hrow 2
        go_wp2_with fail
        have hb5 := wrote_below (y := 0) (m := 0) (d := 0) hbel
        have hr5 := wrote_row (y := 0) (m := 0) (d := 0) hrow
        unfold wrote at hb5 hr5
        generalize ((wr.setCell ⟨B, 0, none⟩ (.int .i64 0)).setCell ⟨B, 1, none⟩ (.int .i64 0)).setCell ⟨B, 2, none⟩ (.int .i64 0) = w5 at *
        obtain ⟨d0, d1, d2⟩ := triple_cells hr5
        exact bodyPost_ret (v := .tuple #[.agg #[.int .i64 0, .int .i64 0, .int .i64 0], .int .i64 2]) (by simp [results, Tryz.results70, go_sem, d0, d1, d2]) rfl ⟨rfl, by rw [hB]; exact hb5⟩
end Go.Proofs.YtoghalmjbbkjhaaGreatDoor.Civ
