/- civil.Of and the reference's, by their contracts. -/
import Derived.Test.YtoghalmjbbkjhaaGreatDoorMaa
import Derived.Test.YtoghalmjbbkjhaaGreatDoorCDays
import Derived.Laws.CopyOwn
import Derived.Great.BuildSlice
namespace Go.Proofs.YtoghalmjbbkjhaaGreatDoor.Civ
open Go.RowKit

/-- three numbers in a block of their own -/
def triple (y m d : Int) : Obj := .cells #[.int .i64 y, .int .i64 m, .int .i64 d] 47 (0, 0)

theorem triple_free {w : World} {B : Nat} {y m d : Int} (h : w.heap[B]? = some (triple y m d)) (i : Nat) : w.frozen? ⟨B, i, none⟩ = false := by
  unfold triple at h
  simp [World.frozen?, h]

theorem triple_set0 {w : World} {B : Nat} {y m d u : Int} (h : w.heap[B]? = some (triple y m d)) : (w.setCell ⟨B, 0, none⟩ (.int .i64 u)).heap[B]? = some (triple u m d) := by
  have hlt := lt_of_block h
  have h' : w.heap[B] = triple y m d := by simpa [Array.getElem?_eq_getElem hlt] using h
  show (w.heap.modify B _)[B]? = _
  rw [Array.getElem?_eq_getElem (by simpa using hlt), Array.getElem_modify_self, h']
  rfl
theorem triple_set1 {w : World} {B : Nat} {y m d u : Int} (h : w.heap[B]? = some (triple y m d)) : (w.setCell ⟨B, 1, none⟩ (.int .i64 u)).heap[B]? = some (triple y u d) := by
  have hlt := lt_of_block h
  have h' : w.heap[B] = triple y m d := by simpa [Array.getElem?_eq_getElem hlt] using h
  show (w.heap.modify B _)[B]? = _
  rw [Array.getElem?_eq_getElem (by simpa using hlt), Array.getElem_modify_self, h']
  rfl
theorem triple_set2 {w : World} {B : Nat} {y m d u : Int} (h : w.heap[B]? = some (triple y m d)) : (w.setCell ⟨B, 2, none⟩ (.int .i64 u)).heap[B]? = some (triple y m u) := by
  have hlt := lt_of_block h
  have h' : w.heap[B] = triple y m d := by simpa [Array.getElem?_eq_getElem hlt] using h
  show (w.heap.modify B _)[B]? = _
  rw [Array.getElem?_eq_getElem (by simpa using hlt), Array.getElem_modify_self, h']
  rfl
/-- a world in which the triple was written -/
def wrote (w : World) (B : Nat) (y m d : Int) : World := ((w.setCell ⟨B, 0, none⟩ (.int .i64 y)).setCell ⟨B, 1, none⟩ (.int .i64 m)).setCell ⟨B, 2, none⟩ (.int .i64 d)
theorem wrote_row {w : World} {B : Nat} {a b c y m d : Int} (h : w.heap[B]? = some (triple a b c)) : (wrote w B y m d).heap[B]? = some (triple y m d) := triple_set2 (triple_set1 (triple_set0 h))
theorem wrote_below {w0 w : World} {B : Nat} {y m d : Int} (h : Below B w0 w) : Below B w0 (wrote w B y m d) :=
  ((h.setCell (p := ⟨B, 0, none⟩) (Nat.le_refl _) _).setCell (p := ⟨B, 1, none⟩) (Nat.le_refl _) _).setCell (p := ⟨B, 2, none⟩) (Nat.le_refl _) _
theorem triple_cells {w : World} {B : Nat} {y m d : Int} (h : w.heap[B]? = some (triple y m d)) : w.cell? ⟨B, 0, none⟩ = some (.int .i64 y) ∧ w.cell? ⟨B, 1, none⟩ = some (.int .i64 m) ∧ w.cell? ⟨B, 2, none⟩ = some (.int .i64 d) :=
  ⟨cell_of_row _ B 0 _ _ _ h, cell_of_row _ B 1 _ _ _ h, cell_of_row _ B 2 _ _ _ h⟩

set_option maxRecDepth 100000 in
set_option maxHeartbeats 1000000 in
theorem of_in (y m d : Int) (w : World) (hw : Mon w) (hmay : Cal.may y m d) :
    Calls Tryz.prog 35 #[.int .i64 (Cal.num y m d)] w fun e w' => e = .returned (.tuple #[.agg #[.int .i64 y, .int .i64 m, .int .i64 d], .int .i64 0]) ∧ Below w.heap.size w w' := by
  obtain ⟨j, k0, hj, hk0, hy, hm, hn, hlo, hhi⟩ := Cal.num_parts hmay
  have hr := Cal.num_range hmay
  generalize Cal.num y m d = n at *
  have HG := Lib.hid (Cal.guess j n hj hlo hhi)
  obtain ⟨hd1, hd2⟩ := hmay.2.2
  have hlong := (Cal.long_pos (y := y) (m := m) (Cal.may_month hmay)).2
  obtain ⟨D, hD⟩ : ∃ D, D = Cal.dby j := ⟨_, rfl⟩
  have hDr := dby_range j (by omega)
  have HF : Hid (∀ w, Calls Tryz.prog 61 #[.int .i64 y] w fun e w' => e = .returned (.int .i64 D) ∧ Below w.heap.size w w') := by
    show ∀ w, _
    rw [hD, show j = (y - 1970).toNat by omega]
    exact fun w => first_any y w (by omega)
  rw [← hD] at hn hlo hDr
  have HD := Lib.hid hD
  have HHI := Lib.hid hhi
  have HLO := Lib.hid hlo
  have HMAY := Lib.hid hmay
  have HM : Hid (∀ W, Below w.heap.size w W → Mon W) := fun W h => hw.below h hw.1
  have HNE := Lib.hid hn
  have HK : Hid (m = (k0 : Int) + 1) := hm
  have HD2 := Lib.hid hd2
  have hdr : 1 ≤ d ∧ d ≤ 31 := by omega
  clear hD hhi hlo hmay hw hn hm hd1 hd2 hlong
  have HYJ : Hid (y = 1970 + (j : Int)) := hy
  have hyr : 1970 ≤ y ∧ y ≤ 2399 := by omega
  clear hy
  -- the guessed year: y, or one less
  have walk : ∀ (g : Int), Hid (g = n / 366) → (Hid (1970 + g = y)) ∨ (Hid (1970 + g + 1 = y)) → Calls Tryz.prog 35 #[.int .i64 n] w fun e w' => e = .returned (.tuple #[.agg #[.int .i64 y, .int .i64 m, .int .i64 d], .int .i64 0]) ∧ Below w.heap.size w w' := by
    intro g HGG HGY
    have hgr : 0 ≤ g ∧ g ≤ 430 := by have := HGG.out; omega
    have HFG : Hid (∀ w, Calls Tryz.prog 61 #[.int .i64 (1970 + g + 1)] w fun e w' => e = .returned (.int .i64 (Cal.dby (g + 1).toNat)) ∧ Below w.heap.size w w') := fun w => by
      have hy := HYJ.out
      have := first_any (1970 + g + 1) w (by rcases HGY with h | h <;> have := h.out <;> omega)
      rw [show (1970 + g + 1 - 1970).toNat = (g + 1).toNat by omega] at this
      exact this
    obtain ⟨F, hF⟩ : ∃ F, F = Cal.dby (g + 1).toNat := ⟨_, rfl⟩
    rw [← hF] at HFG
    have hcmp : (Hid (1970 + g = y) → n < F) ∧ (Hid (1970 + g + 1 = y) → F ≤ n) := by
      constructor
      · intro h
        have := h.out
        have hy := HYJ.out
        rw [hF, show (g + 1).toNat = j + 1 by omega]
        exact HHI.out
      · intro h
        have := h.out
        have hy := HYJ.out
        rw [hF, show (g + 1).toNat = j by omega, ← HD.out]
        exact HLO.out
    clear hF
    have e366 : n / 366 = g := HGG.out.symm
    go_enter Tryz.func35, Tryz.ntmps35
    go_wp2_with fail
    have hrow0 : (w.alloc (Obj.cells #[Value.int IntKind.i64 0, Value.int IntKind.i64 0, Value.int IntKind.i64 0] 47)).heap[w.heap.size]? = some (triple 0 0 0) := heap_alloc_new w _
    have hbel0 : Below w.heap.size w (w.alloc (Obj.cells #[Value.int IntKind.i64 0, Value.int IntKind.i64 0, Value.int IntKind.i64 0] 47)) := (Below.refl _ _).alloc (Nat.le_refl _) _
    have hs0 : w.heap.size < (w.alloc (Obj.cells #[Value.int IntKind.i64 0, Value.int IntKind.i64 0, Value.int IntKind.i64 0] 47)).heap.size := by simp
    generalize w.alloc (Obj.cells #[Value.int IntKind.i64 0, Value.int IntKind.i64 0, Value.int IntKind.i64 0] 47) = W at *
    generalize hB : w.heap.size = B at *
    with_reducible refine (HFG.out _).mono ?_
    rintro e w1 ⟨rfl, hb1⟩
    have hbel1 := hbel0.trans (hb1.mono (Nat.le_of_lt hs0))
    have hrow1 := (hb1.block _ hs0).trans hrow0
    have hs1 := Nat.lt_of_lt_of_le hs0 hb1.size
    clear hb1 hrow0 hbel0 hs0 HFG
    rcases HGY with h | h
    · have hg : 1970 + g = y := h.out
      have hlt := hcmp.1 h
      go_wp2_with fail
      try rw [hg]
      clear hg hlt
      with_reducible refine (HF.out _).mono ?_
      rintro e w2 ⟨rfl, hb2⟩
      have hbel2 := hbel1.trans (hb2.mono (Nat.le_of_lt hs1))
      have hrow2 := (hb2.block _ hs1).trans hrow1
      have hs2 := Nat.lt_of_lt_of_le hs1 hb2.size
      clear hb2 hrow1 hbel1 hs1
      go_wp2_with fail
      go_loopw [5, 6] (fun mo le wr => ∃ k : Nat, k ≤ k0 ∧ mo = .int .i64 ((k : Int) + 1) ∧ le = .int .i64 (n - D - Cal.dbm y k) ∧ Below B w wr ∧ wr.heap[B]? = some (triple 0 0 0) ∧ B < wr.heap.size)
        (fun mo _ _ => (13 - intOf mo).toNat)
      case atStart => exact ⟨0, by omega, rfl, by rw [show Cal.dbm y 0 = 0 by rfl]; congr 1; omega, hbel2, hrow2, hs2⟩
      case round =>
        obtain ⟨k, hk, rfl, rfl, hbel, hrow, hs⟩ := hrel
        have hM := dbm_range y k (by omega)
        have HL := Lib.hid (fun w hw => long_any y ((k : Int) + 1) w hw)
        have hLr := Cal.long_pos (y := y) (m := (k : Int) + 1) (by omega)
        have HS : Hid (Cal.dbm y (k + 1) = Cal.dbm y k + Cal.long y ((k : Int) + 1)) := Eq.refl _
        have hcase : if k < k0 then Cal.long y ((k : Int) + 1) ≤ n - D - Cal.dbm y k else n - D - Cal.dbm y k < Cal.long y ((k : Int) + 1) ∧ n - D - Cal.dbm y k + 1 = d := by
          have h1 := HNE.out
          by_cases hlt : k < k0
          · have h2 := Cal.dbm_next y hlt (by omega)
            rw [if_pos hlt]
            omega
          · have h3 := HD2.out
            rw [HK.out] at h3
            obtain rfl : k = k0 := by omega
            rw [if_neg (by omega)]
            omega
        obtain ⟨L, hL⟩ : ∃ L, L = Cal.long y ((k : Int) + 1) := ⟨_, rfl⟩
        rw [← hL] at HL hLr HS hcase
        clear hL
        obtain ⟨M, hME⟩ : ∃ M, M = Cal.dbm y k := ⟨_, rfl⟩
        rw [← hME] at HS hM hcase ⊢
        clear hME
        go_wp2_with fail
        with_reducible refine (HL.out _ (HM.out _ hbel)).mono ?_
        rintro e w3 ⟨rfl, hb3⟩
        have hbel3 := hbel.trans (hb3.mono (Nat.le_of_lt hs))
        have hrow3 := (hb3.block _ hs).trans hrow
        have hs3 := Nat.lt_of_lt_of_le hs hb3.size
        clear hb3 hbel hrow hs
        by_cases hlt : k < k0
        · rw [if_pos hlt] at hcase
          go_wp2_with fail
          with_reducible refine (HL.out _ (HM.out _ hbel3)).mono ?_
          rintro e w4 ⟨rfl, hb4⟩
          have hbel4 := hbel3.trans (hb4.mono (Nat.le_of_lt hs3))
          have hrow4 := (hb4.block _ hs3).trans hrow3
          have hs4 := Nat.lt_of_lt_of_le hs3 hb4.size
          go_wp2_with fail
          go_roundw
          case rel => exact ⟨k + 1, by omega, by go_num, by rw [HS.out]; congr 1; omega, hbel4, hrow4, hs4⟩
          case measure => simp [intOf]; omega
        · rw [if_neg hlt] at hcase
          have hcl := hcase.1
          have HCD := Lib.hid hcase.2
          have hkk : k = k0 := by omega
          clear hcase
          obtain ⟨c0, c1, c2⟩ := triple_cells hrow3
          have f0 := triple_free hrow3 0
          have f1 := triple_free hrow3 1
          have f2 := triple_free hrow3 2
          go_wp2_with fail
          have hb5 := wrote_below (y := y) (m := (k0 : Int) + 1) (d := n - D - M + 1) hbel3
          have hr5 := wrote_row (y := y) (m := (k0 : Int) + 1) (d := n - D - M + 1) hrow3
          unfold wrote at hb5 hr5
          generalize ((w3.setCell ⟨B, 0, none⟩ (.int .i64 y)).setCell ⟨B, 1, none⟩ (.int .i64 ((k0 : Int) + 1))).setCell ⟨B, 2, none⟩ (.int .i64 (n - D - M + 1)) = w5 at *
          obtain ⟨d0, d1, d2⟩ := triple_cells hr5
          refine bodyPost_ret (v := .tuple #[.agg #[.int .i64 y, .int .i64 ((k0 : Int) + 1), .int .i64 (n - D - M + 1)], .int .i64 0]) (by simp [results, Tryz.results35, go_sem, d0, d1, d2]) rfl ⟨?_, by rw [hB]; exact hb5⟩
          rw [HCD.out, ← HK.out]
    · have hg : 1970 + g + 1 = y := h.out
      have hlt := hcmp.2 h
      go_wp2_with fail
      try rw [hg]
      clear hg hlt
      with_reducible refine (HF.out _).mono ?_
      rintro e w2 ⟨rfl, hb2⟩
      have hbel2 := hbel1.trans (hb2.mono (Nat.le_of_lt hs1))
      have hrow2 := (hb2.block _ hs1).trans hrow1
      have hs2 := Nat.lt_of_lt_of_le hs1 hb2.size
      clear hb2 hrow1 hbel1 hs1
      go_wp2_with fail
      go_loopw [5, 6] (fun mo le wr => ∃ k : Nat, k ≤ k0 ∧ mo = .int .i64 ((k : Int) + 1) ∧ le = .int .i64 (n - D - Cal.dbm y k) ∧ Below B w wr ∧ wr.heap[B]? = some (triple 0 0 0) ∧ B < wr.heap.size)
        (fun mo _ _ => (13 - intOf mo).toNat)
      case atStart => exact ⟨0, by omega, rfl, by rw [show Cal.dbm y 0 = 0 by rfl]; congr 1; omega, hbel2, hrow2, hs2⟩
      case round =>
        obtain ⟨k, hk, rfl, rfl, hbel, hrow, hs⟩ := hrel
        have hM := dbm_range y k (by omega)
        have HL := Lib.hid (fun w hw => long_any y ((k : Int) + 1) w hw)
        have hLr := Cal.long_pos (y := y) (m := (k : Int) + 1) (by omega)
        have HS : Hid (Cal.dbm y (k + 1) = Cal.dbm y k + Cal.long y ((k : Int) + 1)) := Eq.refl _
        have hcase : if k < k0 then Cal.long y ((k : Int) + 1) ≤ n - D - Cal.dbm y k else n - D - Cal.dbm y k < Cal.long y ((k : Int) + 1) ∧ n - D - Cal.dbm y k + 1 = d := by
          have h1 := HNE.out
          by_cases hlt : k < k0
          · have h2 := Cal.dbm_next y hlt (by omega)
            rw [if_pos hlt]
            omega
          · have h3 := HD2.out
            rw [HK.out] at h3
            obtain rfl : k = k0 := by omega
            rw [if_neg (by omega)]
            omega
        obtain ⟨L, hL⟩ : ∃ L, L = Cal.long y ((k : Int) + 1) := ⟨_, rfl⟩
        rw [← hL] at HL hLr HS hcase
        clear hL
        obtain ⟨M, hME⟩ : ∃ M, M = Cal.dbm y k := ⟨_, rfl⟩
        rw [← hME] at HS hM hcase ⊢
        clear hME
        go_wp2_with fail
        with_reducible refine (HL.out _ (HM.out _ hbel)).mono ?_
        rintro e w3 ⟨rfl, hb3⟩
        have hbel3 := hbel.trans (hb3.mono (Nat.le_of_lt hs))
        have hrow3 := (hb3.block _ hs).trans hrow
        have hs3 := Nat.lt_of_lt_of_le hs hb3.size
        clear hb3 hbel hrow hs
        by_cases hlt : k < k0
        · rw [if_pos hlt] at hcase
          go_wp2_with fail
          with_reducible refine (HL.out _ (HM.out _ hbel3)).mono ?_
          rintro e w4 ⟨rfl, hb4⟩
          have hbel4 := hbel3.trans (hb4.mono (Nat.le_of_lt hs3))
          have hrow4 := (hb4.block _ hs3).trans hrow3
          have hs4 := Nat.lt_of_lt_of_le hs3 hb4.size
          go_wp2_with fail
          go_roundw
          case rel => exact ⟨k + 1, by omega, by go_num, by rw [HS.out]; congr 1; omega, hbel4, hrow4, hs4⟩
          case measure => simp [intOf]; omega
        · rw [if_neg hlt] at hcase
          have hcl := hcase.1
          have HCD := Lib.hid hcase.2
          have hkk : k = k0 := by omega
          clear hcase
          obtain ⟨c0, c1, c2⟩ := triple_cells hrow3
          have f0 := triple_free hrow3 0
          have f1 := triple_free hrow3 1
          have f2 := triple_free hrow3 2
          go_wp2_with fail
          have hb5 := wrote_below (y := y) (m := (k0 : Int) + 1) (d := n - D - M + 1) hbel3
          have hr5 := wrote_row (y := y) (m := (k0 : Int) + 1) (d := n - D - M + 1) hrow3
          unfold wrote at hb5 hr5
          generalize ((w3.setCell ⟨B, 0, none⟩ (.int .i64 y)).setCell ⟨B, 1, none⟩ (.int .i64 ((k0 : Int) + 1))).setCell ⟨B, 2, none⟩ (.int .i64 (n - D - M + 1)) = w5 at *
          obtain ⟨d0, d1, d2⟩ := triple_cells hr5
          refine bodyPost_ret (v := .tuple #[.agg #[.int .i64 y, .int .i64 ((k0 : Int) + 1), .int .i64 (n - D - M + 1)], .int .i64 0]) (by simp [results, Tryz.results35, go_sem, d0, d1, d2]) rfl ⟨?_, by rw [hB]; exact hb5⟩
          rw [HCD.out, ← HK.out]
  rcases HG.out with h | h
  · have hy := HYJ.out
    exact walk _ rfl (.inl (by show _ = _; omega))
  · have hy := HYJ.out
    exact walk _ rfl (.inr (by show _ = _; omega))

theorem of_out (n : Int) (w : World) (hn : n < 0 ∨ 157054 ≤ n) :
    Calls Tryz.prog 35 #[.int .i64 n] w fun e w' => e = .returned (.tuple #[.agg #[.int .i64 0, .int .i64 0, .int .i64 0], .int .i64 2]) ∧ Below w.heap.size w w' := by
  have hrow : (w.alloc (Obj.cells #[Value.int IntKind.i64 0, Value.int IntKind.i64 0, Value.int IntKind.i64 0] 47)).heap[w.heap.size]? = some (triple 0 0 0) := heap_alloc_new w _
  have hbel : Below w.heap.size w (w.alloc (Obj.cells #[Value.int IntKind.i64 0, Value.int IntKind.i64 0, Value.int IntKind.i64 0] 47)) := (Below.refl _ _).alloc (Nat.le_refl _) _
  by_cases h : n < 0
  · go_enter Tryz.func35, Tryz.ntmps35
    go_wp2_with fail
    refine bodyPost_ret (v := .tuple #[.agg #[.int .i64 0, .int .i64 0, .int .i64 0], .int .i64 2]) (by simp [results, Tryz.results35, go_sem]) rfl ⟨rfl, hbel⟩
  · go_enter Tryz.func35, Tryz.ntmps35
    go_wp2_with fail
    refine bodyPost_ret (v := .tuple #[.agg #[.int .i64 0, .int .i64 0, .int .i64 0], .int .i64 2]) (by simp [results, Tryz.results35, go_sem]) rfl ⟨rfl, hbel⟩

end Go.Proofs.YtoghalmjbbkjhaaGreatDoor.Civ
