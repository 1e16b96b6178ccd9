/- CronMore's walk. -/
import Derived.Test.YtoamhjcnajljlaaGreatDoorKnown7
import Derived.Test.YtoamhjcnajljlaaGreatDoorMoreM
namespace Go.Proofs.YtoamhjcnajljlaaGreatDoor
open Go.RowKit

/-- what a call answers wherever the tables lie -/
abbrev Gives7 (f : FuncId) (args : Array Value) (v : Value) : Prop := ∀ W, World7 W → NamesOn W → Calls Tryz.prog f args W fun e w' => e = .returned v ∧ Below W.heap.size W w'

set_option maxRecDepth 100000 in
set_option maxHeartbeats 4000000 in
theorem more_E1 (s : ByteArray) (t kind : Int) (more : Nat) (w : World) (hw : World7 w) (hn : NamesOn w) (x : Array Value) (e f : Int)
    (hP : Gives7 7 #[.string s] (.tuple #[.agg x, .int .i64 e]))
    (he : (e != 0) = true) (b : Nat → Nat) (sF : Nat → Bool) (hx : x = xcells b sF)
    (y0 y1 y2 y3 y4 y5 y6 : Int) (hS : Gives7 17 #[.int .i64 t] (.tuple #[.agg #[.int .i64 y0, .int .i64 y1, .int .i64 y2, .int .i64 y3, .int .i64 y4, .int .i64 y5, .int .i64 y6], .int .i64 f])) :
    Calls Tryz.prog 5 #[.string s, .int .i64 t, .int .i64 kind, .int .u64 (more : Int)] w fun e w' => e = .returned (.bool true) ∧ Below w.heap.size w w' := by
  subst hx
  unfold xcells at hP
  have K1 := Lib.hid (fun W hW hN => known7_any W hW hN)
  have HP := Lib.hid hP
  have HS := Lib.hid hS
  have HW := Lib.hid hw
  have HN := Lib.hid hn
  clear hP hS hw hn
  go_enter Tryz.func5, Tryz.ntmps5
  go_wp2_with fail
  with_reducible refine (K1.out _ HW.out HN.out).mono ?_
  rintro e w1 ⟨rfl, hb1⟩
  go_wp2_with fail
  with_reducible refine (HP.out _ (HW.out.next hb1) (HN.out.next hb1)).mono ?_
  rintro e w2 ⟨rfl, hb2⟩
  have OX := Lib.hid (OwnX.newAt (hb1.trans (hb2.mono hb1.size)) b sF)
  clear hb1 hb2
  go_wp2_with fail
  with_reducible refine (HS.out _ (HW.out.next OX.out.bel) (HN.out.next OX.out.bel)).mono ?_
  rintro e w3 ⟨rfl, hb3⟩
  have OX3 := Lib.hid ((OX.out.below hb3).alloc (.cells #[.int .i64 y0, .int .i64 y1, .int .i64 y2, .int .i64 y3, .int .i64 y4, .int .i64 y5, .int .i64 y6] 35))
  clear hb3
  go_wp2_with fail
  go_ret
  exact ⟨rfl, OX3.out.bel⟩
set_option maxRecDepth 100000 in
set_option maxHeartbeats 4000000 in
theorem more_E2 (s : ByteArray) (t kind : Int) (more : Nat) (w : World) (hw : World7 w) (hn : NamesOn w) (x : Array Value) (f : Int)
    (hP : Gives7 7 #[.string s] (.tuple #[.agg x, .int .i64 0]))
    (hf : (f != 0) = true) (b : Nat → Nat) (sF : Nat → Bool) (hx : x = xcells b sF)
    (y0 y1 y2 y3 y4 y5 y6 : Int) (hS : Gives7 17 #[.int .i64 t] (.tuple #[.agg #[.int .i64 y0, .int .i64 y1, .int .i64 y2, .int .i64 y3, .int .i64 y4, .int .i64 y5, .int .i64 y6], .int .i64 f])) :
    Calls Tryz.prog 5 #[.string s, .int .i64 t, .int .i64 kind, .int .u64 (more : Int)] w fun e w' => e = .returned (.bool true) ∧ Below w.heap.size w w' := by
  subst hx
  unfold xcells at hP
  have K1 := Lib.hid (fun W hW hN => known7_any W hW hN)
  have HP := Lib.hid hP
  have HS := Lib.hid hS
  have HW := Lib.hid hw
  have HN := Lib.hid hn
  clear hP hS hw hn
  go_enter Tryz.func5, Tryz.ntmps5
  go_wp2_with fail
  with_reducible refine (K1.out _ HW.out HN.out).mono ?_
  rintro e w1 ⟨rfl, hb1⟩
  go_wp2_with fail
  with_reducible refine (HP.out _ (HW.out.next hb1) (HN.out.next hb1)).mono ?_
  rintro e w2 ⟨rfl, hb2⟩
  have OX := Lib.hid (OwnX.newAt (hb1.trans (hb2.mono hb1.size)) b sF)
  clear hb1 hb2
  go_wp2_with fail
  with_reducible refine (HS.out _ (HW.out.next OX.out.bel) (HN.out.next OX.out.bel)).mono ?_
  rintro e w3 ⟨rfl, hb3⟩
  have OX3 := Lib.hid ((OX.out.below hb3).alloc (.cells #[.int .i64 y0, .int .i64 y1, .int .i64 y2, .int .i64 y3, .int .i64 y4, .int .i64 y5, .int .i64 y6] 35))
  clear hb3
  go_wp2_with fail
  go_ret
  exact ⟨rfl, OX3.out.bel⟩
theorem set_bits (b : Nat → Nat) (sF : Nat → Bool) (v : Nat) : ∀ j, j < 5 → ([.int .u64 ((b 0 : Nat) : Int), .bool (sF 0), .int .u64 ((b 1 : Nat) : Int), .bool (sF 1), .int .u64 ((b 2 : Nat) : Int), .bool (sF 2), .int .u64 ((b 3 : Nat) : Int), .bool (sF 3), .int .u64 ((b 4 : Nat) : Int), .bool (sF 4)] : List Value).set (j * 2) (.int .u64 (v : Int)) = [.int .u64 ((upd b j v 0 : Nat) : Int), .bool (sF 0), .int .u64 ((upd b j v 1 : Nat) : Int), .bool (sF 1), .int .u64 ((upd b j v 2 : Nat) : Int), .bool (sF 2), .int .u64 ((upd b j v 3 : Nat) : Int), .bool (sF 3), .int .u64 ((upd b j v 4 : Nat) : Int), .bool (sF 4)] := by
  refine five ?_ ?_ ?_ ?_ ?_ <;> simp [upd]

set_option maxRecDepth 100000 in
set_option maxHeartbeats 8000000 in
theorem more_ok (s : ByteArray) (t kind : Int) (more : Nat) (hmore : more < 2 ^ 64) (w : World) (hw : World7 w) (hn : NamesOn w) (b : Nat → Nat) (sF : Nat → Bool) (b' : Nat → Nat) (s' : Nat → Bool) (tv : ByteArray) (y m d h i x k : Int) (fv : Bool)
    (hb : ∀ k, k < 5 → b k < 2 ^ 64)
    (hP : Gives7 7 #[.string s] (.tuple #[xval b sF, .int .i64 0]))
    (hS : Gives7 17 #[.int .i64 t] (.tuple #[clkv y m d h i x k, .int .i64 0]))
    (hT : Gives7 11 #[xval b sF] (.string tv))
    (hP2 : Gives7 7 #[.string tv] (.tuple #[xval b' s', .int .i64 0]))
    (hM : Gives7 9 #[xval b sF] (.bool true))
    (hE : ∀ k, k < 5 → b' k = b k) (hx : 0 ≤ x ∧ x < 60)
    (hF1 : Gives7 13 #[xval b sF, clkv y m d h i x k] (.bool fv))
    (hF2 : Gives7 13 #[xval b sF, clkv y m d h i (59 - x) k] (.bool fv))
    (hD : fv = true → Gives7 15 #[xval b sF, clkv y m d h i (59 - x) k] (.bool true))
    (hZ : ∀ j : Nat, j < 5 → ∃ mz fz, Gives7 9 #[xval (upd b j (b j ||| more)) sF] (.bool mz) ∧ Gives7 13 #[xval (upd b j (b j ||| more)) sF, clkv y m d h i (59 - x) k] (.bool fz) ∧ (mz = true → fv = true → fz = true)) :
    Calls Tryz.prog 5 #[.string s, .int .i64 t, .int .i64 kind, .int .u64 (more : Int)] w fun e w' => e = .returned (.bool true) ∧ Below w.heap.size w w' := by
  unfold xval xcells at hP hT hP2 hM hF1 hF2 hD
  unfold clkv at hS hF1 hF2 hD hZ
  have K1 := Lib.hid (fun W hW hN => known7_any W hW hN)
  have HP := Lib.hid hP
  have HS := Lib.hid hS
  have HT := Lib.hid hT
  have HP2 := Lib.hid hP2
  have HM := Lib.hid hM
  have HE := Lib.hid hE
  have HF1 := Lib.hid hF1
  have HF2 := Lib.hid hF2
  have HD := Lib.hid hD
  have HZ := Lib.hid hZ
  have HBB := Lib.hid hb
  have HMO := Lib.hid hmore
  have HW := Lib.hid hw
  have HN := Lib.hid hn
  clear hP hS hT hP2 hM hE hF1 hF2 hD hZ hw hn hb hmore
  go_enter Tryz.func5, Tryz.ntmps5
  go_wp2_with fail
  with_reducible refine (K1.out _ HW.out HN.out).mono ?_
  rintro e w1 ⟨rfl, hb1⟩
  clear K1
  go_wp2_with fail
  with_reducible refine (HP.out _ (HW.out.next hb1) (HN.out.next hb1)).mono ?_
  rintro e w2 ⟨rfl, hb2⟩
  have OX := Lib.hid (OwnX.newAt (hb1.trans (hb2.mono hb1.size)) b sF)
  clear hb1 hb2 HP
  go_wp2_with fail
  with_reducible refine (HS.out _ (HW.out.next OX.out.bel) (HN.out.next OX.out.bel)).mono ?_
  rintro e w3 ⟨rfl, hb3⟩
  have OX3 := Lib.hid ((OX.out.below hb3).alloc (.cells #[.int .i64 y, .int .i64 m, .int .i64 d, .int .i64 h, .int .i64 i, .int .i64 x, .int .i64 k] 35))
  have OC3 := Lib.hid (Civ.Own.newAt (OX.out.below hb3).bel y m d h i x k)
  have hne : w2.heap.size ≠ w3.heap.size := by have := OX.out.siz; have := hb3.size; omega
  clear hb3 HS OX
  obtain ⟨c0, c1, c2, c3, c4, c5, c6, c7, c8, c9⟩ := xobj_cells OX3.out.row
  go_wp2_with fail
  with_reducible refine (HT.out _ (HW.out.next OX3.out.bel) (HN.out.next OX3.out.bel)).mono ?_
  rintro e w4 ⟨rfl, hb4⟩
  have OX4 := Lib.hid (OX3.out.below hb4)
  have OC4 := Lib.hid (OC3.out.below hb4)
  clear hb4 HT OX3 OC3 c0 c1 c2 c3 c4 c5 c6 c7 c8 c9
  generalize w2.heap.size = X at *
  generalize w3.heap.size = C at *
  go_wp2_with fail
  with_reducible refine (HP2.out _ (HW.out.next OX4.out.bel) (HN.out.next OX4.out.bel)).mono ?_
  rintro e w5 ⟨rfl, hb5⟩
  have OY5 := Lib.hid (OwnX.newAt (OX4.out.below hb5).bel b' s')
  have OX5 := Lib.hid ((OX4.out.below hb5).alloc (.cells #[.int .u64 ((b' 0 : Nat) : Int), .bool (s' 0), .int .u64 ((b' 1 : Nat) : Int), .bool (s' 1), .int .u64 ((b' 2 : Nat) : Int), .bool (s' 2), .int .u64 ((b' 3 : Nat) : Int), .bool (s' 3), .int .u64 ((b' 4 : Nat) : Int), .bool (s' 4)] 27))
  have OC5 := Lib.hid ((OC4.out.below hb5).alloc (.cells #[.int .u64 ((b' 0 : Nat) : Int), .bool (s' 0), .int .u64 ((b' 1 : Nat) : Int), .bool (s' 1), .int .u64 ((b' 2 : Nat) : Int), .bool (s' 2), .int .u64 ((b' 3 : Nat) : Int), .bool (s' 3), .int .u64 ((b' 4 : Nat) : Int), .bool (s' 4)] 27))
  clear hb5 HP2 OX4 OC4
  obtain ⟨c0, c1, c2, c3, c4, c5, c6, c7, c8, c9⟩ := xobj_cells OX5.out.row
  go_wp2_with fail
  with_reducible refine (HM.out _ (HW.out.next OX5.out.bel) (HN.out.next OX5.out.bel)).mono ?_
  rintro e w6 ⟨rfl, hb6⟩
  have OX6 := Lib.hid (OX5.out.below hb6)
  have OC6 := Lib.hid (OC5.out.below hb6)
  have OY6 := Lib.hid (OY5.out.below hb6)
  clear hb6 HM OX5 OC5 OY5 c0 c1 c2 c3 c4 c5 c6 c7 c8 c9
  generalize w5.heap.size = Y at *
  go_wp2_with fail
  go_loopg [15] 5 (fun g v wx => OwnX w X b sF wx ∧ Civ.Own w C y m d h i x k wx ∧ OwnX w Y b' s' wx ∧ ∃ j : Nat, j + g = 5 ∧ v = .int .i64 (j : Int))
  case atStart => exact ⟨OX6.out, OC6.out, OY6.out, 0, by omega, rfl⟩
  case round =>
    obtain ⟨ox, oc, oy, j, hjg, rfl⟩ := hrel
    have OXr := Lib.hid ox
    have OCr := Lib.hid oc
    have OYr := Lib.hid oy
    clear ox oc oy OX6 OC6 OY6
    cases gk with
    | succ g =>
      have hj : j < 5 := by omega
      have hj5 : (j : Int) < 5 := by omega
      obtain ⟨a0, -⟩ := xobj_at OXr.out.row j hj
      obtain ⟨a1, -⟩ := xobj_at OYr.out.row j hj
      rw [HE.out j hj] at a1
      go_wp2_with fail
      go_quiet (fail)
      have OXq := Lib.hid (OXr.out.below (many_drew (Below.refl _ _) nq))
      have OCq := Lib.hid (OCr.out.below (many_drew (Below.refl _ _) nq))
      have OYq := Lib.hid (OYr.out.below (many_drew (Below.refl _ _) nq))
      clear a0 a1 OXr OCr OYr
      go_wp2_with fail
      go_roundg g
      case measure => omega
      case rel => exact ⟨OXq.out, OCq.out, OYq.out, j + 1, by omega, by go_num⟩
    | zero =>
      obtain rfl : j = 5 := by omega
      clear OYr HE
      obtain ⟨c0, c1, c2, c3, c4, c5, c6, c7, c8, c9⟩ := xobj_cells OXr.out.row
      obtain ⟨d0, d1, d2, d3, d4, d5, d6⟩ := Civ.clk_cells OCr.out.row
      go_wp2_with fail
      with_reducible refine (HF1.out _ (HW.out.next OXr.out.bel) (HN.out.next OXr.out.bel)).mono ?_
      rintro e w7 ⟨rfl, hb7⟩
      have OX7 := Lib.hid (OXr.out.below hb7)
      have OC7 := Lib.hid (OCr.out.below hb7)
      clear c0 c1 c2 c3 c4 c5 c6 c7 c8 c9 d0 d1 d2 d3 d4 d5 d6 HF1 OXr OCr hb7
      obtain ⟨d0, d1, d2, d3, d4, d5, d6⟩ := Civ.clk_cells OC7.out.row
      have f := fun j => OC7.out.free j
      have OC8 := Lib.hid (OC7.out.set5 (59 - x))
      have OX8 : OwnX w X b sF (w7.setCell ⟨C, 5, none⟩ (.int .i64 (59 - x))) := ⟨OC8.out.bel, OX7.out.at_, by simpa using OX7.out.siz, (set_else (by omega)).trans OX7.out.row⟩
      have OX8 := Lib.hid OX8
      clear OX7 OC7
      generalize hW8 : w7.setCell ⟨C, 5, none⟩ (.int .i64 (59 - x)) = W8 at *
      obtain ⟨c0, c1, c2, c3, c4, c5, c6, c7, c8, c9⟩ := xobj_cells OX8.out.row
      obtain ⟨q0, q1, q2, q3, q4, q5, q6⟩ := Civ.clk_cells OC8.out.row
      go_wp2_with fail
      with_reducible refine (HF2.out _ (HW.out.next OX8.out.bel) (HN.out.next OX8.out.bel)).mono ?_
      rintro e w8 ⟨rfl, hb8⟩
      have OX9 := Lib.hid (OX8.out.below hb8)
      have OC9 := Lib.hid (OC8.out.below hb8)
      clear c0 c1 c2 c3 c4 c5 c6 c7 c8 c9 d0 d1 d2 d3 d4 d5 d6 q0 q1 q2 q3 q4 q5 q6 f hW8 HF2 OX8 OC8 hb8
      cases fv
      · by_cases hk0 : kind < 0
        · go_wp2_with fail
          go_ret
          exact ⟨rfl, OC9.out.bel⟩
        by_cases hk4 : 4 < kind
        · go_wp2_with fail
          go_ret
          exact ⟨rfl, OC9.out.bel⟩
        obtain ⟨j, rfl⟩ := Int.eq_ofNat_of_zero_le (show 0 ≤ kind by omega)
        have hj : j < 5 := by omega
        obtain ⟨mz, fz, hz1, hz2, hz3⟩ := HZ.out j hj
        unfold xval xcells at hz1 hz2
        have HZ1 := Lib.hid hz1
        have HZ2 := Lib.hid hz2
        have HZ3 := Lib.hid hz3
        have gor : bits .or .u64 ((b j : Nat) : Int) (more : Int) = ((b j ||| more : Nat) : Int) := u64_or_nat _ _ (HBB.out j hj) HMO.out
        clear hz1 hz2 hz3 HZ
        obtain ⟨c0, c1, c2, c3, c4, c5, c6, c7, c8, c9⟩ := xobj_cells OX9.out.row
        have HL := set_bits b sF (b j ||| more) j hj
        have OZ := Lib.hid (OwnX.newAt OX9.out.bel b sF)
        obtain ⟨a0, -⟩ := xobj_at OZ.out.row j hj
        have f := fun j => row_free OZ.out.row j
        have OZ2 := Lib.hid (OwnX.newAt OX9.out.bel (upd b j (b j ||| more)) sF)
        have OCy := Lib.hid (OC9.out.alloc (.cells #[.int .u64 ((upd b j (b j ||| more) 0 : Nat) : Int), .bool (sF 0), .int .u64 ((upd b j (b j ||| more) 1 : Nat) : Int), .bool (sF 1), .int .u64 ((upd b j (b j ||| more) 2 : Nat) : Int), .bool (sF 2), .int .u64 ((upd b j (b j ||| more) 3 : Nat) : Int), .bool (sF 3), .int .u64 ((upd b j (b j ||| more) 4 : Nat) : Int), .bool (sF 4)] 27))
        have hj5 : (j : Int) < 5 := by omega
        clear OX9 OC9 hk0 hk4 OZ
        go_wp2_with fail
        with_reducible refine (HZ1.out _ (HW.out.next OZ2.out.bel) (HN.out.next OZ2.out.bel)).mono ?_
        rintro e w10 ⟨rfl, hb10⟩
        have OZ3 := Lib.hid (OZ2.out.below hb10)
        have OC3 := Lib.hid (OCy.out.below hb10)
        clear c0 c1 c2 c3 c4 c5 c6 c7 c8 c9 OZ2 OCy hb10 a0 f
        generalize upd b j (b j ||| more) = zb at *
        cases mz
        · go_wp2_with fail
          go_ret
          exact ⟨rfl, OC3.out.bel⟩
        · go_wp2_with fail
          go_ret
          exact ⟨rfl, OC3.out.bel⟩
      · have HDT := Lib.hid (HD.out rfl)
        clear HD
        obtain ⟨c0, c1, c2, c3, c4, c5, c6, c7, c8, c9⟩ := xobj_cells OX9.out.row
        obtain ⟨d0, d1, d2, d3, d4, d5, d6⟩ := Civ.clk_cells OC9.out.row
        go_wp2_with fail
        with_reducible refine (HDT.out _ (HW.out.next OX9.out.bel) (HN.out.next OX9.out.bel)).mono ?_
        rintro e w9 ⟨rfl, hb9⟩
        have OXA := Lib.hid (OX9.out.below hb9)
        have OCA := Lib.hid (OC9.out.below hb9)
        clear c0 c1 c2 c3 c4 c5 c6 c7 c8 c9 d0 d1 d2 d3 d4 d5 d6 HDT OX9 OC9 hb9
        by_cases hk0 : kind < 0
        · go_wp2_with fail
          go_ret
          exact ⟨rfl, OCA.out.bel⟩
        by_cases hk4 : 4 < kind
        · go_wp2_with fail
          go_ret
          exact ⟨rfl, OCA.out.bel⟩
        obtain ⟨j, rfl⟩ := Int.eq_ofNat_of_zero_le (show 0 ≤ kind by omega)
        have hj : j < 5 := by omega
        obtain ⟨mz, fz, hz1, hz2, hz3⟩ := HZ.out j hj
        unfold xval xcells at hz1 hz2
        have HZ1 := Lib.hid hz1
        have HZ2 := Lib.hid hz2
        have HZ3 := Lib.hid hz3
        have gor : bits .or .u64 ((b j : Nat) : Int) (more : Int) = ((b j ||| more : Nat) : Int) := u64_or_nat _ _ (HBB.out j hj) HMO.out
        clear hz1 hz2 hz3 HZ
        obtain ⟨c0, c1, c2, c3, c4, c5, c6, c7, c8, c9⟩ := xobj_cells OXA.out.row
        have HL := set_bits b sF (b j ||| more) j hj
        have OZ := Lib.hid (OwnX.newAt OXA.out.bel b sF)
        obtain ⟨a0, -⟩ := xobj_at OZ.out.row j hj
        have f := fun j => row_free OZ.out.row j
        have OZ2 := Lib.hid (OwnX.newAt OXA.out.bel (upd b j (b j ||| more)) sF)
        have OCy := Lib.hid (OCA.out.alloc (.cells #[.int .u64 ((upd b j (b j ||| more) 0 : Nat) : Int), .bool (sF 0), .int .u64 ((upd b j (b j ||| more) 1 : Nat) : Int), .bool (sF 1), .int .u64 ((upd b j (b j ||| more) 2 : Nat) : Int), .bool (sF 2), .int .u64 ((upd b j (b j ||| more) 3 : Nat) : Int), .bool (sF 3), .int .u64 ((upd b j (b j ||| more) 4 : Nat) : Int), .bool (sF 4)] 27))
        have hj5 : (j : Int) < 5 := by omega
        clear OXA OCA hk0 hk4 OZ
        go_wp2_with fail
        with_reducible refine (HZ1.out _ (HW.out.next OZ2.out.bel) (HN.out.next OZ2.out.bel)).mono ?_
        rintro e w10 ⟨rfl, hb10⟩
        have OZ3 := Lib.hid (OZ2.out.below hb10)
        have OC3 := Lib.hid (OCy.out.below hb10)
        clear c0 c1 c2 c3 c4 c5 c6 c7 c8 c9 OZ2 OCy hb10 a0 f
        generalize upd b j (b j ||| more) = zb at *
        cases mz
        · go_wp2_with fail
          go_ret
          exact ⟨rfl, OC3.out.bel⟩
        · obtain rfl : fz = true := HZ3.out (by trivial) (by trivial)
          obtain ⟨e0, e1, e2, e3, e4, e5, e6, e7, e8, e9⟩ := xobj_cells OZ3.out.row
          obtain ⟨d0, d1, d2, d3, d4, d5, d6⟩ := Civ.clk_cells OC3.out.row
          go_wp2_with fail
          with_reducible refine (HZ2.out _ (HW.out.next OZ3.out.bel) (HN.out.next OZ3.out.bel)).mono ?_
          rintro e w11 ⟨rfl, hb11⟩
          have OC4 := Lib.hid (OC3.out.below hb11)
          clear hb11 e0 e1 e2 e3 e4 e5 e6 e7 e8 e9 d0 d1 d2 d3 d4 d5 d6
          go_wp2_with fail
          go_ret
          exact ⟨rfl, OC4.out.bel⟩

theorem day_range {y m d h i x k : Int} (hc : Stm.may y m d h i x k) : inInts m d h i k := by
  obtain ⟨h1, h2, h3, h4, h5, -, -, h8⟩ := hc
  obtain ⟨-, -, h11, h12⟩ := h1
  have hl : Cal.long y m ≤ 31 ∧ (1 ≤ Cal.long y m → 1 ≤ m ∧ m ≤ 12) := by
    unfold Cal.long
    repeat' split
    all_goals omega
  have hm := hl.2 (by omega)
  have hk : 0 ≤ k ∧ k ≤ 6 := by
    rw [h8]
    unfold Cal.week
    omega
  unfold inInts
  refine five ?_ ?_ ?_ ?_ ?_ <;> simp only [shows] <;> omega
/-- whatever comes in, CronMore answers true -/
theorem more_law (s : ByteArray) (t kind : Int) (more : Nat) (hmore : more < 2 ^ 64) (w : World) (hw : World7 w) (hn : NamesOn w) :
    Calls Tryz.prog 5 #[.string s, .int .i64 t, .int .i64 kind, .int .u64 (more : Int)] w fun e w' => e = .returned (.bool true) ∧ Below w.heap.size w w' := by
  have hP : Gives7 7 #[.string s] (.tuple #[xval (Cron.pB s.data.toList) (Cron.pS s.data.toList), .int .i64 (Cron.pErr s.data.toList : Int)]) := fun W hW hN => parseX_any s W hW.tabs hN
  have hlt := Cron.pB_lt s.data.toList
  have hmay := @Cron.p_may s.data.toList
  generalize Cron.pB s.data.toList = b at *
  generalize Cron.pS s.data.toList = sF at *
  generalize Cron.pErr s.data.toList = e at *
  by_cases ht : 0 ≤ t ∧ t < 13569465600
  · obtain ⟨y, m, d, h, i, x, k, hc, rfl⟩ := Stm.onto t ht.1 ht.2
    have hS : Gives7 17 #[.int .i64 (Stm.num y m d h i x)] (.tuple #[clkv y m d h i x k, .int .i64 0]) := fun W hW _ => Civ.split_in y m d h i x k W (hW.mon.on (Below.refl _ _)) hc
    by_cases he : e = 0
    · subst he
      have hm := hmay rfl
      have hbk := Cron.back7 sF hlt hm
      have hv := day_range hc
      obtain ⟨hc2, hsec⟩ := Cron.fits_second (b := b) (s := sF) hc
      have hP2 : Gives7 7 #[.string (ba (Cron.text b sF))] (.tuple #[xval (Cron.pB (Cron.text b sF)) (Cron.pS (Cron.text b sF)), .int .i64 0]) := fun W hW hN => by
        have := parseX_any (ba (Cron.text b sF)) W hW.tabs hN
        rw [ba_list] at this
        unfold pres7 at this
        rw [hbk.1] at this
        exact this
      refine more_ok s _ kind more hmore w hw hn b sF _ _ _ y m d h i x k (Cron.fits b sF y m d h i x k) hlt hP hS (fun W hW _ => textX_any b sF hlt W hW.tabs) hP2
        (fun W hW _ => by have := mayX_any b sF hlt W hW.tabs; rw [hm] at this; exact this) hbk.2 ⟨hc.2.2.2.2.2.1, hc.2.2.2.2.2.2.1⟩ (fun W hW _ => fits_any b sF hlt y m d h i x k hv W hW)
        (fun W hW _ => by have := fits_any b sF hlt y m d h i (59 - x) k hv W hW; rw [hsec] at this; exact this)
        (fun hf W hW _ => by have := dayFits_any b sF hlt y m d h i (59 - x) k hv W hW; rw [Cron.fits_day (hsec.trans hf)] at this; exact this) ?_
      intro j hj
      have hlz : ∀ k, k < 5 → upd b j (b j ||| more) k < 2 ^ 64 := fun k hk => by
        unfold upd
        split
        · exact Nat.or_lt_two_pow (hlt j hj) hmore
        · exact hlt k hk
      refine ⟨Cron.may (upd b j (b j ||| more)), Cron.fits (upd b j (b j ||| more)) sF y m d h i (59 - x) k, fun W hW _ => mayX_any _ sF hlz W hW.tabs, fun W hW _ => fits_any _ sF hlz y m d h i (59 - x) k hv W hW, fun h1 h2 => ?_⟩
      refine Cron.fits_more (b := b) (fun q n hq => ?_) h1 (hsec.trans h2)
      unfold upd
      split
      · rename_i e
        rw [e] at hq
        exact Cron.has_more hq
      · exact hq
    · exact more_E1 s _ kind more w hw hn _ (e : Int) 0 hP (by simp; exact he) b sF rfl _ _ _ _ _ _ _ hS
  · have hS : Gives7 17 #[.int .i64 t] (.tuple #[.agg #[.int .i64 0, .int .i64 0, .int .i64 0, .int .i64 0, .int .i64 0, .int .i64 0, .int .i64 0], .int .i64 50]) := fun W _ _ => Civ.split_out t W (by omega)
    by_cases he : e = 0
    · subst he
      exact more_E2 s t kind more w hw hn _ 50 hP (by decide) b sF rfl _ _ _ _ _ _ _ hS
    · exact more_E1 s t kind more w hw hn _ (e : Int) 50 hP (by simp; exact he) b sF rfl _ _ _ _ _ _ _ hS
end Go.Proofs.YtoamhjcnajljlaaGreatDoor
