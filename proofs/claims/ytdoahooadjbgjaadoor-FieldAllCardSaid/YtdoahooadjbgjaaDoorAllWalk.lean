/- FieldAll's walk. -/
import Derived.Test.YtdoahooadjbgjaaDoorKnown6
import Derived.Deep.RegionHeld3
import Derived.Deep.LoopGhost
namespace Go.Proofs.YtdoahooadjbgjaaDoor
open Go.RowKit

theorem back_on (a : Int) (h : -9223372036854775808 ≤ a ∧ a ≤ 9223372036854775807) : wrap64 (wrap64 (a - 1) + 1) = a := by unfold wrap64; omega
theorem wrap_range (a : Int) : -9223372036854775808 ≤ wrap64 a ∧ wrap64 a ≤ 9223372036854775807 := by unfold wrap64; omega
theorem has_gap {b : Nat} {a : Int} {x : Nat} (h : Fld.first b a = some x) {k : Nat} (hk : a ≤ (k : Int)) (hx : k < x) : Fld.has b (k : Int) = false := by
  obtain ⟨h1, h2, h3, h4⟩ := Fld.first_spec h
  rw [Fld.has_in (by omega)]
  exact h4 k hk hx
theorem has_first {b : Nat} {a : Int} {x : Nat} (h : Fld.first b a = some x) : Fld.has b (x : Int) = true := by
  obtain ⟨h1, h2, h3, h4⟩ := Fld.first_spec h
  rw [Fld.has_in h1]
  exact h3
theorem has_none {b : Nat} {a : Int} (h : Fld.first b a = none) {k : Nat} (hk : a ≤ (k : Int)) (hx : k < 64) : Fld.has b (k : Int) = false := by
  rw [Fld.has_in hx]
  exact Fld.first_none.1 h k hk hx

theorem or_bit (b q k : Nat) : (b ||| 2 ^ q).testBit k = (b.testBit k || decide (q = k)) := by rw [Nat.testBit_or, Nat.testBit_two_pow]
theorem and_bit (b q k : Nat) (hk : k < 64) : (b &&& (18446744073709551615 ^^^ 2 ^ q)).testBit k = (b.testBit k && !decide (q = k)) := by
  rw [Nat.testBit_and, Nat.testBit_xor, Nat.testBit_two_pow]
  have : (18446744073709551615 : Nat).testBit k = true := by
    rw [show (18446744073709551615 : Nat) = 2 ^ 64 - 1 by decide, Nat.testBit_two_pow_sub_one, decide_eq_true hk]
  rw [this]
  simp
theorem or_small (b q : Nat) (hb : b < 2 ^ 64) (hq : q < 64) : b ||| 2 ^ q < 18446744073709551616 := Nat.or_lt_two_pow (n := 64) hb (Nat.pow_lt_pow_right (by decide) hq)
theorem and_small (b x : Nat) (hb : b < 2 ^ 64) : b &&& x < 18446744073709551616 := Nat.lt_of_le_of_lt Nat.and_le_left hb
theorem xor_small (q : Nat) (hq : q < 64) : 18446744073709551615 ^^^ 2 ^ q < 18446744073709551616 := Nat.xor_lt_two_pow (n := 64) (by decide) (Nat.pow_lt_pow_right (by decide) hq)

set_option maxRecDepth 100000 in
set_option maxHeartbeats 4000000 in
theorem all_law (b : Nat) (hb : b < 2 ^ 64) (star : Bool) (fr n : Int) (w : World) (hw : TabsOn w) (hfr : -9223372036854775808 ≤ fr ∧ fr ≤ 9223372036854775807) (hn : -9223372036854775808 ≤ n ∧ n ≤ 9223372036854775807) :
    Calls Tryd.prog 6 #[.agg #[.int .u64 (b : Int), .bool star], .int .i64 fr, .int .i64 n] w fun e w' => e = .returned (.bool true) ∧ Below w.heap.size w w' := by
  have o := OwnF.new w b star
  have HW := Lib.hid hw
  have KL := Lib.hid (known_law _ (hw.next o.bel))
  have O := Lib.hid o
  clear hw o
  go_enter Tryd.func6, Tryd.ntmps6
  go_wp2_with fail
  with_reducible refine KL.out.mono ?_
  rintro e w1 ⟨rfl, hb1⟩
  have O1 := Lib.hid (O.out.below hb1)
  clear hb1 O
  have HWB := Lib.hid (back_on fr hfr)
  have HWR := Lib.hid (wrap_range (fr - 1))
  go_wp2_with fail
  go_loopg [7, 8, 9] 66 (fun g t7 t8 t9 wx => ∃ (a la : Int) (i : Nat), i + g = 66 ∧ t7 = .int .i64 a ∧ t8 = .int .i64 la ∧ t9 = .int .i64 (i : Int) ∧ wrap64 (la + 1) = a ∧ (i = 0 ∨ ((i : Int) ≤ a ∧ a ≤ 64)) ∧ (-9223372036854775808 ≤ a ∧ a ≤ 9223372036854775807) ∧ OwnF w w.heap.size b star wx)
  case atStart => exact ⟨fr, _, 0, by omega, rfl, rfl, rfl, HWB.out, .inl rfl, hfr, O1.out⟩
  case round =>
    obtain ⟨a, la, i, hig, rfl, rfl, rfl, hwr, hia, har, ow⟩ := hrel
    obtain ⟨c0, c1⟩ := ow.cells
    have OW := Lib.hid ow
    clear ow
    cases gk with
    | zero =>
      exact absurd hig (by rcases hia with h | h <;> omega)
    | succ g =>
      have hi66 : (i : Int) < 66 := by omega
      have FF := Lib.hid (first_any b hb star a wr (HW.out.next OW.out.bel) har)
      go_wp2_with fail
      with_reducible refine FF.out.mono ?_
      rintro e w2 ⟨rfl, hb2⟩
      have O2 := Lib.hid (OW.out.below hb2)
      clear hb2 FF c0 c1 OW
      unfold firstOf
      obtain ⟨m, hm⟩ : ∃ m : Nat, max 0 a = (m : Int) := ⟨(max 0 a).toNat, by omega⟩
      cases hf : Fld.first b a with
      | none =>
        simp only [Option.getD_none, Option.isSome_none, Int.natCast_zero]
        have HF := Lib.hid hf
        clear hf
        go_wp2_with fail
        simp only [hwr]
        go_loopg [13] (64 - m) (fun g t wx => ∃ k : Nat, g = 64 - k ∧ t = .int .i64 (k : Int) ∧ m ≤ k ∧ OwnF w w.heap.size b star wx)
        case atStart => exact ⟨m, rfl, rfl, Nat.le_refl _, O2.out⟩
        case round =>
          obtain ⟨k, hg, rfl, hk, ow⟩ := hrel
          obtain ⟨c0, c1⟩ := ow.cells
          have OW := Lib.hid ow
          clear ow
          by_cases hk64 : k < 64
          · have HN := has_none HF.out (k := k) (by omega) hk64
            have HA := has_any b hb star (k : Int) wr (by omega)
            rw [HN] at HA
            have HA := Lib.hid HA
            clear HN
            go_wp2_with fail
            with_reducible refine HA.out.mono ?_
            rintro e w3 ⟨rfl, hb3⟩
            have O3 := Lib.hid (OW.out.below hb3)
            clear hb3 HA c0 c1 OW
            go_wp2_with fail
            go_roundg (64 - (k + 1))
            case measure => omega
            case rel => exact ⟨k + 1, rfl, by go_num, by omega, O3.out⟩
          · clear hg
            by_cases hq : 0 ≤ n ∧ n < 64
            · obtain ⟨q, rfl⟩ := Int.eq_ofNat_of_zero_le hq.1
              have hq64 : q < 64 := by omega
              have g0 : decide ((q : Int) < 0) = false := by simp
              have g1 : decide ((63 : Int) < (q : Int)) = false := by simp; omega
              have hlt := OW.out.siz
              have hn1 : ¬ w.heap.size = wr.heap.size := by omega
              have hn2 : ¬ w.heap.size = wr.heap.size + 1 := by omega
              clear hq
              go_wp2_with fail
              have eP := pow_u64 q (by omega)
              have hMO := or_small b q hb hq64
              have hXS := xor_small q hq64
              have hLE := and_small b (18446744073709551615 ^^^ 2 ^ q) hb
              have hPS : 2 ^ q < 18446744073709551616 := Nat.pow_lt_pow_right (n := 64) (by decide) hq64
              have eO : bits .or .u64 (b : Int) ((2 ^ q : Nat) : Int) = ((b ||| 2 ^ q : Nat) : Int) := u64_or_nat _ _ hb hPS
              have eX : bits .xor .u64 IntKind.u64.max ((2 ^ q : Nat) : Int) = ((18446744073709551615 ^^^ 2 ^ q : Nat) : Int) := u64_xor_nat 18446744073709551615 _ (by decide) hPS
              have eA : bits .and .u64 (b : Int) ((18446744073709551615 ^^^ 2 ^ q : Nat) : Int) = ((b &&& (18446744073709551615 ^^^ 2 ^ q) : Nat) : Int) := u64_and_nat _ _ hb hXS
              have HMB := Lib.hid (or_bit b q)
              have HLB := Lib.hid (and_bit b q)
              generalize b &&& (18446744073709551615 ^^^ 2 ^ q) = LE at *
              generalize 18446744073709551615 ^^^ 2 ^ q = XS at *
              generalize b ||| 2 ^ q = MO at *
              generalize ((2 ^ q : Nat) : Int) = PS at *
              go_region
              · have hW2 : Below wr.heap.size wr ((wr.alloc (.cells #[.int .u64 (b : Int), .bool star] 25)).alloc (.cells #[.int .u64 (b : Int), .bool star] 25)).drew := (((Below.refl _ _).alloc (Nat.le_refl _) _).alloc (by simp) _).drew
                have oB := OW.out.below hW2
                have oA1 := ((OwnF.newAt OW.out.bel b star).alloc (.cells #[.int .u64 (b : Int), .bool star] 25)).drew
                have oA2 := (OwnF.newAt (OW.out.bel.alloc OW.out.bel.size (.cells #[.int .u64 (b : Int), .bool star] 25)) b star).drew
                rw [show (wr.alloc (.cells #[.int .u64 (b : Int), .bool star] 25)).heap.size = wr.heap.size + 1 by simp] at oA2
                generalize ((wr.alloc (.cells #[.int .u64 (b : Int), .bool star] 25)).alloc (.cells #[.int .u64 (b : Int), .bool star] 25)).drew = WA at *
                clear hW2
                generalize wr.heap.size = M0 at *
                have O9 : Hid (OwnF w w.heap.size b star WA ∧ OwnF w (M0) b star WA ∧ OwnF w (M0 + 1) b star WA) := Lib.hid ⟨oB, oA1, oA2⟩
                clear c0 c1 OW hn1 hn2
                obtain ⟨m0, m1⟩ := (oA1).cells
                obtain ⟨l0, l1⟩ := (oA2).cells
                have mf := (oA1).free 0
                have lf := (oA2).free 0
                have ne1 : ¬ (M0 = M0 + 1) := by omega
                have ne2 : ¬ (M0 + 1 = M0) := by omega
                clear oB oA1 oA2
                go_wp2_with fail
                have xB := (O9.out.1.other (C := M0) (by omega) (by omega) 0 (.int .u64 (MO : Int))).other (C := M0 + 1) (by omega) (by omega) 0 (.int .u64 (LE : Int))
                have xM := (O9.out.2.1.set MO).other (C := M0 + 1) (by omega) (by omega) 0 (.int .u64 (LE : Int))
                have xL := (O9.out.2.2.other (C := M0) (by omega) (by omega) 0 (.int .u64 (MO : Int))).set LE
                generalize ((WA.setCell ⟨M0, 0, none⟩ (.int .u64 (MO : Int))).setCell ⟨M0 + 1, 0, none⟩ (.int .u64 (LE : Int))) = WB at *
                have X9 := Lib.hid (And.intro xB (And.intro xM xL))
                clear m0 m1 l0 l1 mf lf xB xM xL O9 eP eO eX eA
                go_loopg [16] 64 (fun g t wx => ∃ k3 : Nat, k3 + g = 64 ∧ t = .int .i64 (k3 : Int) ∧ OwnF w w.heap.size b star wx ∧ OwnF w (M0) MO star wx ∧ OwnF w (M0 + 1) LE star wx)
                case atStart => exact ⟨0, by omega, rfl, X9.out.1, X9.out.2.1, X9.out.2.2⟩
                case round =>
                  obtain ⟨k3, hk3, rfl, yB, yM, yL⟩ := hrel
                  have Y9 := Lib.hid (And.intro yB (And.intro yM yL))
                  obtain ⟨b0, b1⟩ := yB.cells
                  obtain ⟨m0, m1⟩ := yM.cells
                  obtain ⟨l0, l1⟩ := yL.cells
                  have hBel := yB.bel
                  clear yB yM yL
                  cases gk with
                  | zero =>
                    obtain rfl : k3 = 64 := by omega
                    have HM := has_any MO hMO star (q : Int) wr (by omega)
                    rw [Fld.has_in hq64, HMB.out q, decide_eq_true rfl, Bool.or_true] at HM
                    have HM := Lib.hid HM
                    go_wp2_with fail
                    with_reducible refine HM.out.mono ?_
                    rintro e w5 ⟨rfl, hb5⟩
                    have zL := Y9.out.2.2.below hb5
                    have HL := has_any LE hLE star (q : Int) w5 (by omega)
                    rw [Fld.has_in hq64, HLB.out q hq64, decide_eq_true rfl, Bool.not_true, Bool.and_false] at HL
                    have HL := Lib.hid HL
                    have HZ := Lib.hid zL.bel
                    clear b0 b1 m0 m1 l0 l1
                    obtain ⟨l0, l1⟩ := zL.cells
                    clear zL hb5
                    go_wp2_with fail
                    with_reducible refine HL.out.mono ?_
                    rintro e w6 ⟨rfl, hb6⟩
                    go_wp2_with fail
                    go_ret
                    exact ⟨rfl, HZ.out.trans (hb6.mono HZ.out.size)⟩
                  | succ g3 =>
                    have hk64 : k3 < 64 := by omega
                    by_cases hkq : k3 = q
                    · subst hkq
                      have gq : ((k3 : Int) != (k3 : Int)) = false := by simp
                      go_wp2_with fail
                      go_region
                      have y1 := Y9.out.1.drew
                      have y2 := Y9.out.2.1.drew
                      have y3 := Y9.out.2.2.drew
                      go_wp2_with fail
                      go_roundg g3
                      case measure => omega
                      case rel => exact ⟨k3 + 1, by omega, by go_num, y1, y2, y3⟩
                    · have hM1 : Fld.has MO (k3 : Int) = Fld.has b (k3 : Int) := by
                        rw [Fld.has_in hk64, Fld.has_in hk64, HMB.out k3, decide_eq_false (fun e => hkq e.symm), Bool.or_false]
                      have hL1 : Fld.has LE (k3 : Int) = Fld.has b (k3 : Int) := by
                        rw [Fld.has_in hk64, Fld.has_in hk64, HLB.out k3 hk64, decide_eq_false (fun e => hkq e.symm), Bool.not_false, Bool.and_true]
                      have CB := fun W => has_any b hb star (k3 : Int) W (by omega)
                      have CM := fun W => has_any MO hMO star (k3 : Int) W (by omega)
                      have CL := fun W => has_any LE hLE star (k3 : Int) W (by omega)
                      rw [hM1] at CM
                      rw [hL1] at CL
                      generalize Fld.has b (k3 : Int) = R at CB CM CL
                      have CB := Lib.hid CB
                      have CM := Lib.hid CM
                      have CL := Lib.hid CL
                      have gq : ((k3 : Int) != (q : Int)) = true := by rw [bne_iff_ne]; omega
                      clear hM1 hL1
                      go_wp2_with fail
                      go_region_held3 (fun w' => w'.cell? ⟨w.heap.size, 0, none⟩ = some (.int .u64 (b : Int)) ∧ w'.cell? ⟨w.heap.size, 1, none⟩ = some (.bool star) ∧ w'.cell? ⟨M0, 0, none⟩ = some (.int .u64 (MO : Int)) ∧ w'.cell? ⟨M0, 1, none⟩ = some (.bool star) ∧ w'.cell? ⟨M0 + 1, 0, none⟩ = some (.int .u64 (LE : Int)) ∧ w'.cell? ⟨M0 + 1, 1, none⟩ = some (.bool star) ∧ Below wr.heap.size wr w')
                        (first
                          | exact ⟨b0, b1, m0, m1, l0, l1, (Below.refl _ _).drew⟩
                          | go_keep
                          | (go_split_ands; exact ⟨stays hb9 (by assumption), stays hb9 (by assumption), stays hb9 (by assumption), stays hb9 (by assumption), stays hb9 (by assumption), stays hb9 (by assumption), Below.trans (by assumption) (hb9.mono (Below.size (by assumption)))⟩))
                        (first
                          | (go_at_call 14; with_reducible refine (CB.out _).mono ?_; rintro e w9 ⟨rfl, hb9⟩)
                          | (go_at_call 14; with_reducible refine (CM.out _).mono ?_; rintro e w9 ⟨rfl, hb9⟩)
                          | (go_at_call 14; with_reducible refine (CL.out _).mono ?_; rintro e w9 ⟨rfl, hb9⟩))
                      rename_i hHeld
                      obtain ⟨_, _, _, _, _, _, hBW⟩ := hHeld
                      have y1 := Y9.out.1.below hBW
                      have y2 := Y9.out.2.1.below hBW
                      have y3 := Y9.out.2.2.below hBW
                      go_wp2_with fail
                      go_roundg g3
                      case measure => omega
                      case rel => exact ⟨k3 + 1, by omega, by go_num, y1, y2, y3⟩
              · have hW2 : Below wr.heap.size wr ((wr.alloc (.cells #[.int .u64 (b : Int), .bool star] 25)).alloc (.cells #[.int .u64 (b : Int), .bool star] 25)).drew := (((Below.refl _ _).alloc (Nat.le_refl _) _).alloc (by simp) _).drew
                have oB := OW.out.below hW2
                have oA1 := ((OwnF.newAt OW.out.bel b star).alloc (.cells #[.int .u64 (b : Int), .bool star] 25)).drew
                have oA2 := (OwnF.newAt (OW.out.bel.alloc OW.out.bel.size (.cells #[.int .u64 (b : Int), .bool star] 25)) b star).drew
                rw [show (wr.alloc (.cells #[.int .u64 (b : Int), .bool star] 25)).heap.size = wr.heap.size + 1 by simp] at oA2
                generalize ((wr.alloc (.cells #[.int .u64 (b : Int), .bool star] 25)).alloc (.cells #[.int .u64 (b : Int), .bool star] 25)).drew = WA at *
                clear hW2
                generalize wr.heap.size = M0 at *
                have O9 : Hid (OwnF w w.heap.size b star WA ∧ OwnF w (M0 + 1) b star WA ∧ OwnF w (M0) b star WA) := Lib.hid ⟨oB, oA2, oA1⟩
                clear c0 c1 OW hn1 hn2
                obtain ⟨m0, m1⟩ := (oA2).cells
                obtain ⟨l0, l1⟩ := (oA1).cells
                have mf := (oA2).free 0
                have lf := (oA1).free 0
                have ne1 : ¬ (M0 + 1 = M0) := by omega
                have ne2 : ¬ (M0 = M0 + 1) := by omega
                clear oB oA1 oA2
                go_wp2_with fail
                have xB := (O9.out.1.other (C := M0 + 1) (by omega) (by omega) 0 (.int .u64 (MO : Int))).other (C := M0) (by omega) (by omega) 0 (.int .u64 (LE : Int))
                have xM := (O9.out.2.1.set MO).other (C := M0) (by omega) (by omega) 0 (.int .u64 (LE : Int))
                have xL := (O9.out.2.2.other (C := M0 + 1) (by omega) (by omega) 0 (.int .u64 (MO : Int))).set LE
                generalize ((WA.setCell ⟨M0 + 1, 0, none⟩ (.int .u64 (MO : Int))).setCell ⟨M0, 0, none⟩ (.int .u64 (LE : Int))) = WB at *
                have X9 := Lib.hid (And.intro xB (And.intro xM xL))
                clear m0 m1 l0 l1 mf lf xB xM xL O9 eP eO eX eA
                go_loopg [16] 64 (fun g t wx => ∃ k3 : Nat, k3 + g = 64 ∧ t = .int .i64 (k3 : Int) ∧ OwnF w w.heap.size b star wx ∧ OwnF w (M0 + 1) MO star wx ∧ OwnF w (M0) LE star wx)
                case atStart => exact ⟨0, by omega, rfl, X9.out.1, X9.out.2.1, X9.out.2.2⟩
                case round =>
                  obtain ⟨k3, hk3, rfl, yB, yM, yL⟩ := hrel
                  have Y9 := Lib.hid (And.intro yB (And.intro yM yL))
                  obtain ⟨b0, b1⟩ := yB.cells
                  obtain ⟨m0, m1⟩ := yM.cells
                  obtain ⟨l0, l1⟩ := yL.cells
                  have hBel := yB.bel
                  clear yB yM yL
                  cases gk with
                  | zero =>
                    obtain rfl : k3 = 64 := by omega
                    have HM := has_any MO hMO star (q : Int) wr (by omega)
                    rw [Fld.has_in hq64, HMB.out q, decide_eq_true rfl, Bool.or_true] at HM
                    have HM := Lib.hid HM
                    go_wp2_with fail
                    with_reducible refine HM.out.mono ?_
                    rintro e w5 ⟨rfl, hb5⟩
                    have zL := Y9.out.2.2.below hb5
                    have HL := has_any LE hLE star (q : Int) w5 (by omega)
                    rw [Fld.has_in hq64, HLB.out q hq64, decide_eq_true rfl, Bool.not_true, Bool.and_false] at HL
                    have HL := Lib.hid HL
                    have HZ := Lib.hid zL.bel
                    clear b0 b1 m0 m1 l0 l1
                    obtain ⟨l0, l1⟩ := zL.cells
                    clear zL hb5
                    go_wp2_with fail
                    with_reducible refine HL.out.mono ?_
                    rintro e w6 ⟨rfl, hb6⟩
                    go_wp2_with fail
                    go_ret
                    exact ⟨rfl, HZ.out.trans (hb6.mono HZ.out.size)⟩
                  | succ g3 =>
                    have hk64 : k3 < 64 := by omega
                    by_cases hkq : k3 = q
                    · subst hkq
                      have gq : ((k3 : Int) != (k3 : Int)) = false := by simp
                      go_wp2_with fail
                      go_region
                      have y1 := Y9.out.1.drew
                      have y2 := Y9.out.2.1.drew
                      have y3 := Y9.out.2.2.drew
                      go_wp2_with fail
                      go_roundg g3
                      case measure => omega
                      case rel => exact ⟨k3 + 1, by omega, by go_num, y1, y2, y3⟩
                    · have hM1 : Fld.has MO (k3 : Int) = Fld.has b (k3 : Int) := by
                        rw [Fld.has_in hk64, Fld.has_in hk64, HMB.out k3, decide_eq_false (fun e => hkq e.symm), Bool.or_false]
                      have hL1 : Fld.has LE (k3 : Int) = Fld.has b (k3 : Int) := by
                        rw [Fld.has_in hk64, Fld.has_in hk64, HLB.out k3 hk64, decide_eq_false (fun e => hkq e.symm), Bool.not_false, Bool.and_true]
                      have CB := fun W => has_any b hb star (k3 : Int) W (by omega)
                      have CM := fun W => has_any MO hMO star (k3 : Int) W (by omega)
                      have CL := fun W => has_any LE hLE star (k3 : Int) W (by omega)
                      rw [hM1] at CM
                      rw [hL1] at CL
                      generalize Fld.has b (k3 : Int) = R at CB CM CL
                      have CB := Lib.hid CB
                      have CM := Lib.hid CM
                      have CL := Lib.hid CL
                      have gq : ((k3 : Int) != (q : Int)) = true := by rw [bne_iff_ne]; omega
                      clear hM1 hL1
                      go_wp2_with fail
                      go_region_held3 (fun w' => w'.cell? ⟨w.heap.size, 0, none⟩ = some (.int .u64 (b : Int)) ∧ w'.cell? ⟨w.heap.size, 1, none⟩ = some (.bool star) ∧ w'.cell? ⟨M0 + 1, 0, none⟩ = some (.int .u64 (MO : Int)) ∧ w'.cell? ⟨M0 + 1, 1, none⟩ = some (.bool star) ∧ w'.cell? ⟨M0, 0, none⟩ = some (.int .u64 (LE : Int)) ∧ w'.cell? ⟨M0, 1, none⟩ = some (.bool star) ∧ Below wr.heap.size wr w')
                        (first
                          | exact ⟨b0, b1, m0, m1, l0, l1, (Below.refl _ _).drew⟩
                          | go_keep
                          | (go_split_ands; exact ⟨stays hb9 (by assumption), stays hb9 (by assumption), stays hb9 (by assumption), stays hb9 (by assumption), stays hb9 (by assumption), stays hb9 (by assumption), Below.trans (by assumption) (hb9.mono (Below.size (by assumption)))⟩))
                        (first
                          | (go_at_call 14; with_reducible refine (CB.out _).mono ?_; rintro e w9 ⟨rfl, hb9⟩)
                          | (go_at_call 14; with_reducible refine (CM.out _).mono ?_; rintro e w9 ⟨rfl, hb9⟩)
                          | (go_at_call 14; with_reducible refine (CL.out _).mono ?_; rintro e w9 ⟨rfl, hb9⟩))
                      rename_i hHeld
                      obtain ⟨_, _, _, _, _, _, hBW⟩ := hHeld
                      have y1 := Y9.out.1.below hBW
                      have y2 := Y9.out.2.1.below hBW
                      have y3 := Y9.out.2.2.below hBW
                      go_wp2_with fail
                      go_roundg g3
                      case measure => omega
                      case rel => exact ⟨k3 + 1, by omega, by go_num, y1, y2, y3⟩
            · have HN := Fld.has_out (b := b) hq
              have HA := has_any b hb star n wr hn
              rw [HN] at HA
              have HA := Lib.hid HA
              clear HN
              by_cases h0 : n < 0
              · have g0 : decide (n < 0) = true := decide_eq_true h0
                go_wp2_with fail
                with_reducible refine HA.out.mono ?_
                rintro e w3 ⟨rfl, hb3⟩
                go_wp2_with fail
                go_ret
                exact ⟨rfl, OW.out.bel.trans (hb3.mono OW.out.bel.size)⟩
              · have g0 : decide (n < 0) = false := decide_eq_false h0
                have g1 : decide (63 < n) = true := decide_eq_true (by omega)
                go_wp2_with fail
                with_reducible refine HA.out.mono ?_
                rintro e w3 ⟨rfl, hb3⟩
                go_wp2_with fail
                go_ret
                exact ⟨rfl, OW.out.bel.trans (hb3.mono OW.out.bel.size)⟩
      | some x =>
        simp only [Option.getD_some, Option.isSome_some]
        obtain ⟨f1, f2, f3, f4⟩ := Fld.first_spec hf
        have HF := Lib.hid hf
        clear hf f3 f4
        go_wp2_with fail
        simp only [hwr]
        go_loopg [13] (x - m) (fun g t wx => ∃ k : Nat, g = x - k ∧ t = .int .i64 (k : Int) ∧ m ≤ k ∧ OwnF w w.heap.size b star wx)
        case atStart => exact ⟨m, rfl, rfl, Nat.le_refl _, O2.out⟩
        case round =>
          obtain ⟨k, hg2, rfl, hk, ow⟩ := hrel
          obtain ⟨c0, c1⟩ := ow.cells
          have OW := Lib.hid ow
          clear ow
          by_cases hkx : k < x
          · have HN := has_gap HF.out (k := k) (by omega) hkx
            have HA := has_any b hb star (k : Int) wr (by omega)
            rw [HN] at HA
            have HA := Lib.hid HA
            clear HN
            go_wp2_with fail
            with_reducible refine HA.out.mono ?_
            rintro e w3 ⟨rfl, hb3⟩
            have O3 := Lib.hid (OW.out.below hb3)
            clear hb3 HA c0 c1 OW
            go_wp2_with fail
            go_roundg (x - (k + 1))
            case measure => omega
            case rel => exact ⟨k + 1, rfl, by go_num, by omega, O3.out⟩
          · have HN := has_first HF.out
            have HA := has_any b hb star (x : Int) wr (by omega)
            rw [HN] at HA
            have HA := Lib.hid HA
            have gx : decide ((x : Int) < a) = false := by simp; omega
            clear HN hg2
            go_wp2_with fail
            with_reducible refine HA.out.mono ?_
            rintro e w3 ⟨rfl, hb3⟩
            have O3 := Lib.hid (OW.out.below hb3)
            clear hb3 HA c0 c1 OW hm
            go_wp2_with fail
            go_roundg g
            case measure => omega
            case rel => exact ⟨(x : Int) + 1, (x : Int), i + 1, by omega, rfl, rfl, by go_num, by unfold wrap64; omega, .inr ⟨by omega, by omega⟩, ⟨by omega, by omega⟩, O3.out⟩
end Go.Proofs.YtdoahooadjbgjaaDoor
