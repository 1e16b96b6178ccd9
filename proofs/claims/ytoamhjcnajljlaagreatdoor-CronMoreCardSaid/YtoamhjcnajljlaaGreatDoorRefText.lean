/- The reference's digits and Text, by their contracts. -/
import Derived.Test.YtoamhjcnajljlaaGreatDoorRefAsk
import Derived.Laws.DeepStrings4
namespace Go.Proofs.YtoamhjcnajljlaaGreatDoor
open Go.RowKit

theorem dig_one : ∀ n : Fin 10, (⟨#[48, 49, 50, 51, 52, 53, 54, 55, 56, 57]⟩ : ByteArray).extract n.val (n.val + 1) = ba (Fld.dig n.val) := by decide +kernel
theorem dig_split : ∀ n : Fin 64, 10 ≤ n.val → Fld.dig n.val = Fld.dig (n.val / 10) ++ Fld.dig (n.val % 10) := by decide +kernel
theorem dig_size {n : Nat} (h : n < 64) : (ba (Fld.dig n)).size ≤ 2 := by rw [ba_size]; exact Fld.dig_len h
set_option maxRecDepth 100000 in
theorem refDigit_any (n : Nat) (hn : n < 10) (w : World) : Calls Tryz.prog 52 #[.int .i64 (n : Int)] w fun e w' => e = .returned (.string (ba (Fld.dig n))) ∧ Below w.heap.size w w' := by
  have HD := Lib.hid (dig_one ⟨n, hn⟩)
  have g0 : decide ((n : Int) < 10) = true := decide_eq_true (by omega)
  have hsl : (Instr.slice 9 (.string ⟨#[48, 49, 50, 51, 52, 53, 54, 55, 56, 57]⟩) (some (.int .i64 (n : Int))) (some (.int .i64 ((n : Int) + 1))) none).run Tryz.prog w = .ok (.string (ba (Fld.dig n))) w := by
    have h10 : (⟨#[48, 49, 50, 51, 52, 53, 54, 55, 56, 57]⟩ : ByteArray).size = 10 := rfl
    rw [run_slice_string_if w 9 _ _ _ _ _ Tryz.underlying9, if_pos (by omega), if_pos (by omega), ← HD.out]
    rfl
  generalize ba (Fld.dig n) = dv at *
  go_enter Tryz.func52, Tryz.ntmps52
  go_wp2_with fail
  go_ret
  exact ⟨rfl, Below.refl _ _⟩
set_option maxRecDepth 100000 in
theorem refDigits_any (n : Nat) (hn : n < 64) (w : World) : Calls Tryz.prog 52 #[.int .i64 (n : Int)] w fun e w' => e = .returned (.string (ba (Fld.dig n))) ∧ Below w.heap.size w w' := by
  by_cases h : n < 10
  · exact refDigit_any n h w
  · have hs := dig_split ⟨n, hn⟩ (show 10 ≤ n by omega)
    simp only at hs
    have z1 := dig_size (show n / 10 < 64 by omega)
    have z2 := dig_size (show n % 10 < 64 by omega)
    have C1 := refDigit_any (n / 10) (by omega)
    have C2 := refDigit_any (n % 10) (by omega)
    have e1 : (n : Int) / 10 = ((n / 10 : Nat) : Int) := by omega
    have e2 : (n : Int) % 10 = ((n % 10 : Nat) : Int) := by omega
    have g0 : decide ((n : Int) < 10) = false := decide_eq_false (by omega)
    have HS : Hid (ba (Fld.dig (n / 10)) ++ ba (Fld.dig (n % 10)) = ba (Fld.dig n)) := Lib.hid (by rw [hs, ba_app])
    clear hs
    generalize ba (Fld.dig (n / 10)) = d1 at *
    generalize ba (Fld.dig (n % 10)) = d2 at *
    generalize ba (Fld.dig n) = d0 at *
    generalize n / 10 = q at *
    generalize n % 10 = r at *
    have C1 := Lib.hid C1
    have C2 := Lib.hid C2
    go_enter Tryz.func52, Tryz.ntmps52
    go_wp2_with fail
    with_reducible refine (C1.out _).mono ?_
    rintro e w1 ⟨rfl, hb1⟩
    have H1 := Lib.hid hb1
    clear hb1
    go_wp2_with fail
    with_reducible refine (C2.out _).mono ?_
    rintro e w2 ⟨rfl, hb2⟩
    have H2 := Lib.hid (H1.out.trans (hb2.mono H1.out.size))
    clear hb2 H1
    go_wp2_with fail
    go_ret
    exact ⟨by rw [← HS.out]; rfl, H2.out⟩

namespace Fld
theorem comma_len (s : List UInt8) : (comma s).length ≤ s.length + 1 := by
  unfold comma
  split
  · simp
  · simp
theorem st_len {b n : Nat} (hn : n < 64) (s : List UInt8) : (st b n s).length ≤ s.length + 3 := by
  have := dig_len hn
  have := comma_len s
  unfold st
  split
  · omega
  · split
    · split
      · omega
      · simp; omega
    · simp; omega
theorem bodyTo_len (b : Nat) : ∀ n, n ≤ 64 → (bodyTo b n).length ≤ 3 * n
  | 0, _ => by simp [bodyTo]
  | n + 1, h => by
    have h1 := bodyTo_len b n (by omega)
    have h2 := st_len (b := b) (show n < 64 by omega) (bodyTo b n)
    show (st b n (bodyTo b n)).length ≤ _
    omega
/-- a field that may be allows all numbers just if it allows each one -/
theorem whole_iff {k b : Nat} (hk : k ≤ 4) (hb : b < 2 ^ 64) (hm : may (k : Int) b = true) : (∀ j, lo k ≤ j → j ≤ hi k → b.testBit j = true) ↔ b = all k := by
  obtain ⟨h1, h2⟩ := (may_iff hk hb).1 hm
  constructor
  · intro h
    refine Nat.eq_of_testBit_eq fun m => ?_
    rw [all_bit hk, Bool.eq_iff_iff]
    simp only [Bool.and_eq_true, decide_eq_true_eq]
    exact ⟨h2 m, fun ⟨ha, hc⟩ => h m ha hc⟩
  · intro h j ha hc
    rw [h, all_bit hk, decide_eq_true ha, decide_eq_true hc]
    rfl
theorem st_skip {b n : Nat} (h0 : has b (n : Int) = false) : bodyTo b (n + 1) = bodyTo b n := by
  show st b n (bodyTo b n) = _
  unfold st
  rw [if_pos h0]
theorem st_mid {b n : Nat} (h0 : has b (n : Int) = true) (h1 : has b ((n : Int) - 1) = true) (h3 : has b ((n : Int) + 1) = true) : bodyTo b (n + 1) = bodyTo b n := by
  show st b n (bodyTo b n) = _
  unfold st
  rw [h0, h1, h3]
  simp
theorem st_dash {b n : Nat} (h0 : has b (n : Int) = true) (h1 : has b ((n : Int) - 1) = true) (h2 : has b ((n : Int) - 2) = true) (h3 : has b ((n : Int) + 1) = false) : bodyTo b (n + 1) = bodyTo b n ++ [45] ++ dig n := by
  show st b n (bodyTo b n) = _
  unfold st
  rw [h0, h1, h2, h3]
  simp
theorem st_new {b n : Nat} (h0 : has b (n : Int) = true) (h1 : (has b ((n : Int) - 1) && (has b ((n : Int) - 2) || has b ((n : Int) + 1))) = false) : bodyTo b (n + 1) = comma (bodyTo b n) ++ dig n := by
  show st b n (bodyTo b n) = _
  unfold st
  rw [h0, h1]
  simp
end Fld
set_option maxRecDepth 100000 in
set_option maxHeartbeats 4000000 in
theorem refText_runs (k : Nat) (hk : k ≤ 4) (b : Nat) (hb : b < 2 ^ 64) (star : Bool) (w : World) (hm : Fld.may (k : Int) b = true) : Calls Tryz.prog 28 #[.int .i64 (k : Int), .agg #[.int .u64 (b : Int), .bool star]] w fun e w' => e = .returned (.string (ba (Fld.text (k : Int) b star))) ∧ Below w.heap.size w w' := by
  have o := OwnF.new w b star
  have O := Lib.hid o
  have HM := refMay_any (k : Int) b hb star
  rw [hm] at HM
  have HM := Lib.hid HM
  have HL := Lib.hid (refLow_any k hk)
  have HH := Lib.hid (refHigh_any k hk)
  have HWI := Lib.hid (Fld.whole_iff hk hb hm)
  have hT : Hid (Fld.text (k : Int) b star = if star = true ∧ b = Fld.all k then [42] else Fld.body b) := Lib.hid (by unfold Fld.text; rw [if_pos hm, Int.toNat_natCast])
  generalize Fld.text (k : Int) b star = TX at hT ⊢
  have hlh := Fld.hi_le hk
  generalize Fld.lo k = lo at *
  generalize Fld.hi k = hi at *
  have HA := Lib.hid (fun (n : Int) => refHas_any b hb star n)
  clear o hm
  go_enter Tryz.func28, Tryz.ntmps28
  go_wp2_with fail
  with_reducible refine (HM.out _).mono ?_
  rintro e w1 ⟨rfl, hb1⟩
  have O1 := Lib.hid (O.out.below hb1)
  clear hb1 O HM
  obtain ⟨c0, c1⟩ := O1.out.cells
  go_wp2_with fail
  with_reducible refine (HL.out _).mono ?_
  rintro e w2 ⟨rfl, hb2⟩
  have O2 := Lib.hid (O1.out.below hb2)
  clear hb2 O1 HL c0 c1
  go_wp2_with fail
  go_loopg [5, 6] (hi + 1 - lo) (fun g t5 t6 wx => ∃ (i : Nat) (wv : Bool), i + g = hi + 1 ∧ lo ≤ i ∧ t5 = .bool wv ∧ t6 = .int .i64 (i : Int) ∧ (wv = true ↔ star = true ∧ ∀ j : Nat, lo ≤ j → j < i → b.testBit j = true) ∧ OwnF w w.heap.size b star wx)
  case atStart => exact ⟨lo, star, by omega, Nat.le_refl _, rfl, rfl, ⟨fun h => ⟨h, fun j h1 h2 => absurd h1 (by omega)⟩, fun h => h.1⟩, O2.out⟩
  case round =>
    obtain ⟨i, wv, hig, hlo, rfl, rfl, hwv, ow⟩ := hrel
    obtain ⟨c0, c1⟩ := ow.cells
    have OW := Lib.hid ow
    have WV := Lib.hid hwv
    clear ow hwv O2
    go_wp2_with fail
    with_reducible refine (HH.out _).mono ?_
    rintro e w3 ⟨rfl, hb3⟩
    have O3 := Lib.hid (OW.out.below hb3)
    clear hb3 OW c0 c1
    obtain ⟨c0, c1⟩ := O3.out.cells
    cases gk with
    | succ g =>
      have gi : decide ((i : Int) ≤ (hi : Int)) = true := decide_eq_true (by omega)
      have gi2 : ((i : Int) ≤ (hi : Int)) = True := eq_true (by omega)
      cases wv with
      | false =>
        go_wp2_with fail
        go_roundg g
        case measure => omega
        case rel => exact ⟨i + 1, false, by omega, by omega, rfl, by go_num, ⟨fun h => by simp at h, fun h => WV.out.2 ⟨h.1, fun j h1 h2 => h.2 j h1 (by omega)⟩⟩, O3.out⟩
      | true =>
        have CA := HA.out (i : Int)
        rw [Fld.has_nat hb] at CA
        have HQ : Hid (b.testBit i = true ↔ star = true ∧ ∀ j : Nat, lo ≤ j → j < i + 1 → b.testBit j = true) := Lib.hid ⟨fun h => ⟨(WV.out.1 rfl).1, fun j h1 h2 => by
          by_cases e : j = i
          · rw [e]; exact h
          · exact (WV.out.1 rfl).2 j h1 (by omega)⟩, fun h => h.2 i (by omega) (by omega)⟩
        generalize b.testBit i = R at HQ CA
        have CA := Lib.hid CA
        go_wp2_with fail
        with_reducible refine (CA.out _).mono ?_
        rintro e w4 ⟨rfl, hb4⟩
        have O4 := Lib.hid (O3.out.below hb4)
        clear hb4 O3 c0 c1
        go_wp2_with fail
        go_roundg g
        case measure => omega
        case rel => exact ⟨i + 1, R, by omega, by omega, rfl, by go_num, HQ.out, O4.out⟩
    | zero =>
      have gi : decide ((i : Int) ≤ (hi : Int)) = false := decide_eq_false (by omega)
      have gi2 : ((i : Int) ≤ (hi : Int)) = False := eq_false (by omega)
      have HX : Hid (wv = true ↔ star = true ∧ b = Fld.all k) := Lib.hid (by
        rw [WV.out, ← HWI.out]
        exact ⟨fun h => ⟨h.1, fun j h1 h2 => h.2 j h1 (by omega)⟩, fun h => ⟨h.1, fun j h1 h2 => h.2 j h1 (by omega)⟩⟩)
      cases wv with
      | true =>
        have HT : Hid (TX = [42]) := Lib.hid (by rw [hT.out, if_pos (HX.out.1 rfl)])
        go_wp2_with fail
        go_ret
        exact ⟨by rw [HT.out]; rfl, O3.out.bel⟩
      | false =>
        have HT : Hid (TX = Fld.body b) := Lib.hid (by rw [hT.out, if_neg fun h => by simpa using HX.out.2 h])
        go_wp2_with fail
        clear HX WV gi gi2 hig hlo HWI
        go_loopg [7, 8] 64 (fun g t7 t8 wx => ∃ i : Nat, i + g = 64 ∧ t7 = .string (ba (Fld.bodyTo b i)) ∧ t8 = .int .i64 (i : Int) ∧ OwnF w w.heap.size b star wx)
        case atStart => exact ⟨0, by omega, rfl, rfl, O3.out⟩
        case round =>
          clear c0 c1
          obtain ⟨i, hig, rfl, rfl, ow⟩ := hrel
          obtain ⟨c0, c1⟩ := ow.cells
          have OW := Lib.hid ow
          clear ow O3
          cases gk with
          | zero =>
            obtain rfl : i = 64 := by omega
            have gl : (((64 : Nat) : Int) < 64) = False := by simp
            go_wp2_with fail
            go_ret
            exact ⟨by rw [HT.out]; rfl, OW.out.bel⟩
          | succ g =>
            have hi64 : i < 64 := by omega
            have gl : ((i : Int) < 64) = True := by simp; omega
            have hlen := Fld.bodyTo_len b i (by omega)
            have z1 : (ba (Fld.bodyTo b i)).size ≤ 200 := by rw [ba_size]; omega
            have z2 := dig_size hi64
            have DG := refDigits_any i hi64
            have C0 := HA.out (i : Int)
            have C1 := HA.out ((i : Int) - 1)
            have C2 := HA.out ((i : Int) - 2)
            have C3 := HA.out ((i : Int) + 1)
            have S0 := Fld.st_skip (b := b) (n := i)
            have S1 := Fld.st_mid (b := b) (n := i)
            have S2 := Fld.st_dash (b := b) (n := i)
            have S3 := Fld.st_new (b := b) (n := i)
            generalize Fld.has b (i : Int) = h0 at *
            generalize Fld.has b ((i : Int) - 1) = h1 at *
            generalize Fld.has b ((i : Int) - 2) = h2 at *
            generalize Fld.has b ((i : Int) + 1) = h3 at *
            generalize hNX : Fld.bodyTo b (i + 1) = NX at *
            generalize Fld.bodyTo b i = S at *
            have hcs : (ba S).toList = S := ba_toList S
            generalize hdg : ba (Fld.dig i) = dv at *
            have DG := Lib.hid DG
            have HDG := Lib.hid hdg
            have HNX := Lib.hid hNX
            clear hdg hlen hNX
            cases h0 with
            | false =>
              have NE := Lib.hid (S0 rfl)
              have D0 := Lib.hid C0
              have D1 := Lib.hid C1
              have D2 := Lib.hid C2
              have D3 := Lib.hid C3
              clear C0 C1 C2 C3 S0 S1 S2 S3 HA
              go_wp2_with fail
              with_reducible refine (D0.out _).mono ?_
              rintro e v4 ⟨rfl, hv4⟩
              have V4 := Lib.hid (OW.out.below hv4)
              clear hv4 OW c0 c1
              obtain ⟨c0, c1⟩ := V4.out.cells
              go_wp2_with fail
              go_roundg g
              case measure => omega
              case rel => exact ⟨i + 1, by omega, by rw [HNX.out, NE.out], by go_num, V4.out⟩
            | true =>
              cases h1 with
              | false =>
                have NE := Lib.hid (S3 rfl rfl)
                have D0 := Lib.hid C0
                have D1 := Lib.hid C1
                have D2 := Lib.hid C2
                have D3 := Lib.hid C3
                clear C0 C1 C2 C3 S0 S1 S2 S3 HA
                go_wp2_with fail
                with_reducible refine (D0.out _).mono ?_
                rintro e v4 ⟨rfl, hv4⟩
                have V4 := Lib.hid (OW.out.below hv4)
                clear hv4 OW c0 c1
                obtain ⟨c0, c1⟩ := V4.out.cells
                go_wp2_with fail
                with_reducible refine (D1.out _).mono ?_
                rintro e v5 ⟨rfl, hv5⟩
                have V5 := Lib.hid (V4.out.below hv5)
                clear hv5 V4 c0 c1
                obtain ⟨c0, c1⟩ := V5.out.cells
                cases S with
                | nil =>
                  have E := Lib.hid NE.out
                  clear NE
                  go_wp2_with fail
                  with_reducible refine (DG.out _).mono ?_
                  rintro e v6 ⟨rfl, hv6⟩
                  have V6 := Lib.hid (V5.out.below hv6)
                  clear hv6 V5 c0 c1
                  obtain ⟨c0, c1⟩ := V6.out.cells
                  have E2 : Hid (ba [] ++ dv = ba NX) := Lib.hid (by rw [E.out, ← HDG.out, ba_app]; rfl)
                  go_wp2_with fail
                  go_roundg g
                  case measure => omega
                  case rel => exact ⟨i + 1, by omega, by rw [HNX.out, ← E2.out], by go_num, V6.out⟩
                | cons c0' S' =>
                  have E2 : Hid (ba (c0' :: S') ++ ⟨#[44]⟩ ++ dv = ba NX) := Lib.hid (by rw [NE.out, ← HDG.out, show (⟨#[44]⟩ : ByteArray) = ba [44] from rfl, ba_app, ba_app]; rfl)
                  clear NE
                  generalize ba (c0' :: S') = sv at *
                  go_wp2_with fail
                  with_reducible refine (DG.out _).mono ?_
                  rintro e v6 ⟨rfl, hv6⟩
                  have V6 := Lib.hid (V5.out.below hv6)
                  clear hv6 V5 c0 c1
                  obtain ⟨c0, c1⟩ := V6.out.cells
                  go_wp2_with fail
                  go_roundg g
                  case measure => omega
                  case rel => exact ⟨i + 1, by omega, by rw [HNX.out, ← E2.out], by go_num, V6.out⟩
              | true =>
                cases h2 with
                | true =>
                  cases h3 with
                  | true =>
                    have NE := Lib.hid (S1 rfl rfl rfl)
                    have D0 := Lib.hid C0
                    have D1 := Lib.hid C1
                    have D2 := Lib.hid C2
                    have D3 := Lib.hid C3
                    clear C0 C1 C2 C3 S0 S1 S2 S3 HA
                    go_wp2_with fail
                    with_reducible refine (D0.out _).mono ?_
                    rintro e v4 ⟨rfl, hv4⟩
                    have V4 := Lib.hid (OW.out.below hv4)
                    clear hv4 OW c0 c1
                    obtain ⟨c0, c1⟩ := V4.out.cells
                    go_wp2_with fail
                    with_reducible refine (D1.out _).mono ?_
                    rintro e v5 ⟨rfl, hv5⟩
                    have V5 := Lib.hid (V4.out.below hv5)
                    clear hv5 V4 c0 c1
                    obtain ⟨c0, c1⟩ := V5.out.cells
                    go_wp2_with fail
                    with_reducible refine (D2.out _).mono ?_
                    rintro e v6 ⟨rfl, hv6⟩
                    have V6 := Lib.hid (V5.out.below hv6)
                    clear hv6 V5 c0 c1
                    obtain ⟨c0, c1⟩ := V6.out.cells
                    go_wp2_with fail
                    with_reducible refine (D3.out _).mono ?_
                    rintro e v7 ⟨rfl, hv7⟩
                    have V7 := Lib.hid (V6.out.below hv7)
                    clear hv7 V6 c0 c1
                    obtain ⟨c0, c1⟩ := V7.out.cells
                    go_wp2_with fail
                    go_roundg g
                    case measure => omega
                    case rel => exact ⟨i + 1, by omega, by rw [HNX.out, NE.out], by go_num, V7.out⟩
                  | false =>
                    have NE := Lib.hid (S2 rfl rfl rfl rfl)
                    have D0 := Lib.hid C0
                    have D1 := Lib.hid C1
                    have D2 := Lib.hid C2
                    have D3 := Lib.hid C3
                    clear C0 C1 C2 C3 S0 S1 S2 S3 HA
                    go_wp2_with fail
                    with_reducible refine (D0.out _).mono ?_
                    rintro e v4 ⟨rfl, hv4⟩
                    have V4 := Lib.hid (OW.out.below hv4)
                    clear hv4 OW c0 c1
                    obtain ⟨c0, c1⟩ := V4.out.cells
                    go_wp2_with fail
                    with_reducible refine (D1.out _).mono ?_
                    rintro e v5 ⟨rfl, hv5⟩
                    have V5 := Lib.hid (V4.out.below hv5)
                    clear hv5 V4 c0 c1
                    obtain ⟨c0, c1⟩ := V5.out.cells
                    go_wp2_with fail
                    with_reducible refine (D2.out _).mono ?_
                    rintro e v6 ⟨rfl, hv6⟩
                    have V6 := Lib.hid (V5.out.below hv6)
                    clear hv6 V5 c0 c1
                    obtain ⟨c0, c1⟩ := V6.out.cells
                    go_wp2_with fail
                    with_reducible refine (D3.out _).mono ?_
                    rintro e v7 ⟨rfl, hv7⟩
                    have V7 := Lib.hid (V6.out.below hv7)
                    clear hv7 V6 c0 c1
                    obtain ⟨c0, c1⟩ := V7.out.cells
                    have E2 : Hid (ba S ++ ⟨#[45]⟩ ++ dv = ba NX) := Lib.hid (by rw [NE.out, ← HDG.out, show (⟨#[45]⟩ : ByteArray) = ba [45] from rfl, ba_app, ba_app])
                    clear NE
                    generalize ba S = sv at *
                    go_wp2_with fail
                    with_reducible refine (DG.out _).mono ?_
                    rintro e v8 ⟨rfl, hv8⟩
                    have V8 := Lib.hid (V7.out.below hv8)
                    clear hv8 V7 c0 c1
                    obtain ⟨c0, c1⟩ := V8.out.cells
                    go_wp2_with fail
                    go_roundg g
                    case measure => omega
                    case rel => exact ⟨i + 1, by omega, by rw [HNX.out, ← E2.out], by go_num, V8.out⟩
                | false =>
                  cases h3 with
                  | true =>
                    have NE := Lib.hid (S1 rfl rfl rfl)
                    have D0 := Lib.hid C0
                    have D1 := Lib.hid C1
                    have D2 := Lib.hid C2
                    have D3 := Lib.hid C3
                    clear C0 C1 C2 C3 S0 S1 S2 S3 HA
                    go_wp2_with fail
                    with_reducible refine (D0.out _).mono ?_
                    rintro e v4 ⟨rfl, hv4⟩
                    have V4 := Lib.hid (OW.out.below hv4)
                    clear hv4 OW c0 c1
                    obtain ⟨c0, c1⟩ := V4.out.cells
                    go_wp2_with fail
                    with_reducible refine (D1.out _).mono ?_
                    rintro e v5 ⟨rfl, hv5⟩
                    have V5 := Lib.hid (V4.out.below hv5)
                    clear hv5 V4 c0 c1
                    obtain ⟨c0, c1⟩ := V5.out.cells
                    go_wp2_with fail
                    with_reducible refine (D2.out _).mono ?_
                    rintro e v6 ⟨rfl, hv6⟩
                    have V6 := Lib.hid (V5.out.below hv6)
                    clear hv6 V5 c0 c1
                    obtain ⟨c0, c1⟩ := V6.out.cells
                    go_wp2_with fail
                    with_reducible refine (D3.out _).mono ?_
                    rintro e v7 ⟨rfl, hv7⟩
                    have V7 := Lib.hid (V6.out.below hv7)
                    clear hv7 V6 c0 c1
                    obtain ⟨c0, c1⟩ := V7.out.cells
                    go_wp2_with fail
                    with_reducible refine (D3.out _).mono ?_
                    rintro e v8 ⟨rfl, hv8⟩
                    have V8 := Lib.hid (V7.out.below hv8)
                    clear hv8 V7 c0 c1
                    obtain ⟨c0, c1⟩ := V8.out.cells
                    go_wp2_with fail
                    go_roundg g
                    case measure => omega
                    case rel => exact ⟨i + 1, by omega, by rw [HNX.out, NE.out], by go_num, V8.out⟩
                  | false =>
                    have NE := Lib.hid (S3 rfl rfl)
                    have D0 := Lib.hid C0
                    have D1 := Lib.hid C1
                    have D2 := Lib.hid C2
                    have D3 := Lib.hid C3
                    clear C0 C1 C2 C3 S0 S1 S2 S3 HA
                    go_wp2_with fail
                    with_reducible refine (D0.out _).mono ?_
                    rintro e v4 ⟨rfl, hv4⟩
                    have V4 := Lib.hid (OW.out.below hv4)
                    clear hv4 OW c0 c1
                    obtain ⟨c0, c1⟩ := V4.out.cells
                    go_wp2_with fail
                    with_reducible refine (D1.out _).mono ?_
                    rintro e v5 ⟨rfl, hv5⟩
                    have V5 := Lib.hid (V4.out.below hv5)
                    clear hv5 V4 c0 c1
                    obtain ⟨c0, c1⟩ := V5.out.cells
                    go_wp2_with fail
                    with_reducible refine (D2.out _).mono ?_
                    rintro e v6 ⟨rfl, hv6⟩
                    have V6 := Lib.hid (V5.out.below hv6)
                    clear hv6 V5 c0 c1
                    obtain ⟨c0, c1⟩ := V6.out.cells
                    go_wp2_with fail
                    with_reducible refine (D3.out _).mono ?_
                    rintro e v7 ⟨rfl, hv7⟩
                    have V7 := Lib.hid (V6.out.below hv7)
                    clear hv7 V6 c0 c1
                    obtain ⟨c0, c1⟩ := V7.out.cells
                    cases S with
                    | nil =>
                      have E := Lib.hid NE.out
                      clear NE
                      go_wp2_with fail
                      with_reducible refine (DG.out _).mono ?_
                      rintro e v8 ⟨rfl, hv8⟩
                      have V8 := Lib.hid (V7.out.below hv8)
                      clear hv8 V7 c0 c1
                      obtain ⟨c0, c1⟩ := V8.out.cells
                      have E2 : Hid (ba [] ++ dv = ba NX) := Lib.hid (by rw [E.out, ← HDG.out, ba_app]; rfl)
                      go_wp2_with fail
                      go_roundg g
                      case measure => omega
                      case rel => exact ⟨i + 1, by omega, by rw [HNX.out, ← E2.out], by go_num, V8.out⟩
                    | cons c0' S' =>
                      have E2 : Hid (ba (c0' :: S') ++ ⟨#[44]⟩ ++ dv = ba NX) := Lib.hid (by rw [NE.out, ← HDG.out, show (⟨#[44]⟩ : ByteArray) = ba [44] from rfl, ba_app, ba_app]; rfl)
                      clear NE
                      generalize ba (c0' :: S') = sv at *
                      go_wp2_with fail
                      with_reducible refine (DG.out _).mono ?_
                      rintro e v8 ⟨rfl, hv8⟩
                      have V8 := Lib.hid (V7.out.below hv8)
                      clear hv8 V7 c0 c1
                      obtain ⟨c0, c1⟩ := V8.out.cells
                      go_wp2_with fail
                      go_roundg g
                      case measure => omega
                      case rel => exact ⟨i + 1, by omega, by rw [HNX.out, ← E2.out], by go_num, V8.out⟩

set_option maxRecDepth 100000 in
theorem refText_any (k : Int) (b : Nat) (hb : b < 2 ^ 64) (star : Bool) (w : World) : Calls Tryz.prog 28 #[.int .i64 k, .agg #[.int .u64 (b : Int), .bool star]] w fun e w' => e = .returned (.string (ba (Fld.text k b star))) ∧ Below w.heap.size w w' := by
  cases hm : Fld.may k b with
  | true =>
    have hk : 0 ≤ k ∧ k ≤ 4 := by
      rcases Decidable.em (0 ≤ k ∧ k ≤ 4) with h | h
      · exact h
      · rw [Fld.may_out h] at hm; simp at hm
    obtain ⟨n, rfl⟩ := Int.eq_ofNat_of_zero_le hk.1
    exact refText_runs n (by omega) b hb star w hm
  | false =>
    have e : Fld.text k b star = [] := by unfold Fld.text; rw [hm]; rfl
    rw [e]
    have O := Lib.hid (OwnF.new w b star)
    have HM := refMay_any k b hb star
    rw [hm] at HM
    have HM := Lib.hid HM
    clear hm e
    go_enter Tryz.func28, Tryz.ntmps28
    go_wp2_with fail
    with_reducible refine (HM.out _).mono ?_
    rintro e w1 ⟨rfl, hb1⟩
    have O1 := Lib.hid (O.out.below hb1)
    clear hb1 O HM
    go_wp2_with fail
    go_ret
    exact ⟨rfl, O1.out.bel⟩
end Go.Proofs.YtoamhjcnajljlaaGreatDoor
