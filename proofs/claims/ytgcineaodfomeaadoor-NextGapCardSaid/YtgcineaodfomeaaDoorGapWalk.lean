/- The statement NextGap, walked: what After and Last of a moment tell, and between. -/
import Derived.Test.YtgcineaodfomeaaDoorKnown8
namespace Go.Proofs.YtgcineaodfomeaaDoor
open Go.RowKit

/-! what holds of a firing, and of a moment that is none -/
theorem fired {b : Nat → Nat} {s : Nat → Bool} {r : Int} (hm : Cron.may b = true) (hf : Fire.fires b s r) : ∃ y m d h i k, Stm.may y m d h i 0 k ∧ Stm.num y m d h i 0 = r ∧ Cron.fits b s y m d h i 0 k = true := by
  obtain ⟨y, m, d, h, i, x, k, hmay, hn⟩ := Stm.onto r hf.1 hf.2.1
  rw [← hn] at hf
  obtain ⟨rfl, hfit⟩ := (Fire.fires_at hm hmay).1 hf
  exact ⟨y, m, d, h, i, k, hmay, hn, hfit⟩
theorem not_fired {b : Nat → Nat} {s : Nat → Bool} {r : Int} (hm : Cron.may b = true) (h0 : 0 ≤ r ∧ r < 13569465600) (hf : ¬ Fire.fires b s r) : ∃ y m d h i x k, Stm.may y m d h i x k ∧ Stm.num y m d h i x = r ∧ (x = 0 → Cron.fits b s y m d h i x k = false) := by
  obtain ⟨y, m, d, h, i, x, k, hmay, hn⟩ := Stm.onto r h0.1 h0.2
  refine ⟨y, m, d, h, i, x, k, hmay, hn, fun hx => ?_⟩
  cases hq : Cron.fits b s y m d h i x k
  · rfl
  · exact absurd (hn ▸ (Fire.fires_at hm hmay).2 ⟨hx, hq⟩) hf
theorem may_ints {y m d h i x k : Int} (hm : Stm.may y m d h i x k) : inInts m d h i k := by
  obtain ⟨h1, h2, h3, h4, h5, h6, h7, h8⟩ := hm
  have hmo := Cal.may_month h1
  have hlg := Cal.long_pos (y := y) hmo
  have hd := h1.2.2
  have hk : 0 ≤ k ∧ k ≤ 6 := by rw [h8]; unfold Cal.week; omega
  unfold inInts
  refine five ?_ ?_ ?_ ?_ ?_ <;> simp only [shows] <;> omega
section
variable (b : Nat → Nat) (s : Nat → Bool) (hb : ∀ k, k < 5 → b k < 2 ^ 64)
include hb
theorem after_says (t : Int) (p1 p2 : Int) (h : Fire.AfterT b s t (p1, p2)) (W : World) (hW : World7 W) : Calls Tryd.prog 6 #[xval b s, .int .i64 t] W fun e W' => e = .returned (.tuple #[.int .i64 p1, .int .i64 p2]) ∧ Below W.heap.size W W' :=
  (after_any b s hb t W hW).mono fun e W' ⟨q, hq, he, hb⟩ => by obtain rfl := Fire.afterT_one hq h; exact ⟨he, hb⟩
theorem last_says (t : Int) (p1 p2 : Int) (h : Fire.LastT b s t (p1, p2)) (W : World) (hW : World7 W) : Calls Tryd.prog 8 #[xval b s, .int .i64 t] W fun e W' => e = .returned (.tuple #[.int .i64 p1, .int .i64 p2]) ∧ Below W.heap.size W W' :=
  (last_any b s hb t W hW).mono fun e W' ⟨q, hq, he, hb⟩ => by obtain rfl := Fire.lastT_one hq h; exact ⟨he, hb⟩
end

set_option maxRecDepth 100000 in
set_option maxHeartbeats 8000000 in
theorem gap_out (b : Nat → Nat) (s : Nat → Bool) (hb : ∀ k, k < 5 → b k < 2 ^ 64) (t q c : Int) (hc : c ≠ 0) (ha : Fire.AfterT b s t (0, c)) (hl : Fire.LastT b s t (0, c)) (g : Bool) (hg : Cron.may b = g) (hcase : g = false ∨ (g = true ∧ decide (t < 0) = true) ∨ (g = true ∧ decide (t < 0) = false ∧ decide (13569465600 ≤ t) = true)) (w : World) (hw : World7 w) :
    Calls Tryd.prog 4 #[xval b s, .int .i64 t, .int .i64 q] w fun e w' => e = .returned (.bool true) ∧ Below w.heap.size w w' := by
  have O0 := Lib.hid (OwnX.new w b s)
  have HK := Lib.hid (fun W hW => known8_any W hW)
  have HM := Lib.hid (fun W hW => mayX_any b s hb W hW)
  have HA := Lib.hid (fun W hW => after_says b s hb t 0 c ha W hW)
  have HL := Lib.hid (fun W hW => last_says b s hb t 0 c hl W hW)
  have HW := Lib.hid hw
  rw [hg] at HM
  clear hb hw ha hl hg
  unfold xval xcells at *
  go_enter Tryd.func4, Tryd.ntmps4
  obtain ⟨x0, x1, x2, x3, x4, x5, x6, x7, x8, x9⟩ := xobj_cells O0.out.row
  go_wp2_with fail
  with_reducible refine (HK.out _ (HW.out.next O0.out.bel)).mono ?_
  rintro e w1 ⟨rfl, b1⟩
  have O1 := Lib.hid (O0.out.below b1)
  clear b1 O0 x0 x1 x2 x3 x4 x5 x6 x7 x8 x9
  obtain ⟨x0, x1, x2, x3, x4, x5, x6, x7, x8, x9⟩ := xobj_cells O1.out.row
  go_wp2_with fail
  with_reducible refine (HA.out _ (HW.out.next O1.out.bel)).mono ?_
  rintro e w2 ⟨rfl, b2⟩
  have O2 := Lib.hid (O1.out.below b2)
  clear b2 O1 x0 x1 x2 x3 x4 x5 x6 x7 x8 x9
  obtain ⟨x0, x1, x2, x3, x4, x5, x6, x7, x8, x9⟩ := xobj_cells O2.out.row
  go_wp2_with fail
  with_reducible refine (HL.out _ (HW.out.next O2.out.bel)).mono ?_
  rintro e w3 ⟨rfl, b3⟩
  have O3 := Lib.hid (O2.out.below b3)
  clear b3 O2 x0 x1 x2 x3 x4 x5 x6 x7 x8 x9
  obtain ⟨x0, x1, x2, x3, x4, x5, x6, x7, x8, x9⟩ := xobj_cells O3.out.row
  go_wp2_with fail
  with_reducible refine (HM.out _ (HW.out.next O3.out.bel).tabs).mono ?_
  rintro e w4 ⟨rfl, b4⟩
  have O4 := Lib.hid (O3.out.below b4)
  clear b4 O3 x0 x1 x2 x3 x4 x5 x6 x7 x8 x9
  obtain ⟨x0, x1, x2, x3, x4, x5, x6, x7, x8, x9⟩ := xobj_cells O4.out.row
  clear x0 x1 x2 x3 x4 x5 x6 x7 x8 x9
  rcases hcase with rfl | ⟨rfl, g0⟩ | ⟨rfl, g0, g1⟩
  · go_wp2_with fail
    go_ret
    exact ⟨by simp [hc], O4.out.bel⟩
  · go_wp2_with fail
    go_ret
    exact ⟨by simp [hc], O4.out.bel⟩
  · go_wp2_with fail
    go_ret
    exact ⟨by simp [hc], O4.out.bel⟩

set_option maxRecDepth 100000 in
set_option maxHeartbeats 8000000 in
theorem gap_none_none (b : Nat → Nat) (s : Nat → Bool) (hb : ∀ k, k < 5 → b k < 2 ^ 64) (hm : Cron.may b = true) (t q : Int) (ht : 0 ≤ t ∧ t < 13569465600) (hl : Fire.NoLast b s t) (ha : Fire.NoAfter b s t) (w : World) (hw : World7 w) :
    Calls Tryd.prog 4 #[xval b s, .int .i64 t, .int .i64 q] w fun e w' => e = .returned (.bool true) ∧ Below w.heap.size w w' := by
  have O0 := Lib.hid (OwnX.new w b s)
  have HK := Lib.hid (fun W hW => known8_any W hW)
  have HM := Lib.hid (fun W hW => mayX_any b s hb W hW)
  have HA := Lib.hid (fun W hW => after_says b s hb t 0 5 (afterT_in hm ht (.inr ⟨rfl, ha⟩)) W hW)
  have HL := Lib.hid (fun W hW => last_says b s hb t 0 5 (lastT_in hm ht (.inr ⟨rfl, hl⟩)) W hW)
  have HE := Lib.hid (fun W hW => last_says b s hb 13569465599 0 5 (lastT_in hm (by decide) (.inr ⟨rfl, Fire.noLast_end ha hl⟩)) W hW)
  have HW := Lib.hid hw
  rw [hm] at HM
  have g0 : decide (t < 0) = false := decide_eq_false (by omega)
  have g1 : decide (13569465600 ≤ t) = false := decide_eq_false (by omega)
  clear hb hw ha hl hm
  unfold xval xcells at *
  go_enter Tryd.func4, Tryd.ntmps4
  obtain ⟨x0, x1, x2, x3, x4, x5, x6, x7, x8, x9⟩ := xobj_cells O0.out.row
  go_wp2_with fail
  with_reducible refine (HK.out _ (HW.out.next O0.out.bel)).mono ?_
  rintro e w1 ⟨rfl, b1⟩
  have O1 := Lib.hid (O0.out.below b1)
  clear b1 O0 x0 x1 x2 x3 x4 x5 x6 x7 x8 x9
  obtain ⟨x0, x1, x2, x3, x4, x5, x6, x7, x8, x9⟩ := xobj_cells O1.out.row
  go_wp2_with fail
  with_reducible refine (HA.out _ (HW.out.next O1.out.bel)).mono ?_
  rintro e w2 ⟨rfl, b2⟩
  have O2 := Lib.hid (O1.out.below b2)
  clear b2 O1 x0 x1 x2 x3 x4 x5 x6 x7 x8 x9
  obtain ⟨x0, x1, x2, x3, x4, x5, x6, x7, x8, x9⟩ := xobj_cells O2.out.row
  go_wp2_with fail
  with_reducible refine (HL.out _ (HW.out.next O2.out.bel)).mono ?_
  rintro e w3 ⟨rfl, b3⟩
  have O3 := Lib.hid (O2.out.below b3)
  clear b3 O2 x0 x1 x2 x3 x4 x5 x6 x7 x8 x9
  obtain ⟨x0, x1, x2, x3, x4, x5, x6, x7, x8, x9⟩ := xobj_cells O3.out.row
  go_wp2_with fail
  with_reducible refine (HM.out _ (HW.out.next O3.out.bel).tabs).mono ?_
  rintro e w4 ⟨rfl, b4⟩
  have O4 := Lib.hid (O3.out.below b4)
  clear b4 O3 x0 x1 x2 x3 x4 x5 x6 x7 x8 x9
  obtain ⟨x0, x1, x2, x3, x4, x5, x6, x7, x8, x9⟩ := xobj_cells O4.out.row
  go_wp2_with fail
  with_reducible refine (HE.out _ (HW.out.next O4.out.bel)).mono ?_
  rintro e w5 ⟨rfl, b5⟩
  have O5 := Lib.hid (O4.out.below b5)
  clear b5 O4 x0 x1 x2 x3 x4 x5 x6 x7 x8 x9
  obtain ⟨x0, x1, x2, x3, x4, x5, x6, x7, x8, x9⟩ := xobj_cells O5.out.row
  go_wp2_with fail
  go_ret
  exact ⟨rfl, O5.out.bel⟩

set_option maxRecDepth 100000 in
set_option maxHeartbeats 8000000 in
theorem gap_none_some (b : Nat → Nat) (s : Nat → Bool) (hb : ∀ k, k < 5 → b k < 2 ^ 64) (hm : Cron.may b = true) (t q : Int) (ht : 0 ≤ t ∧ t < 13569465600) (hl : Fire.NoLast b s t) (a : Int) (ha : Fire.AfterIs b s t a) (hq : -9223372036854775808 ≤ q ∧ q ≤ 9223372036854775807) (w : World) (hw : World7 w) :
    Calls Tryd.prog 4 #[xval b s, .int .i64 t, .int .i64 q] w fun e w' => e = .returned (.bool true) ∧ Below w.heap.size w w' := by
  have O0 := Lib.hid (OwnX.new w b s)
  have HK := Lib.hid (fun W hW => known8_any W hW)
  have HM := Lib.hid (fun W hW => mayX_any b s hb W hW)
  have HA := Lib.hid (fun W hW => after_says b s hb t a 0 (afterT_in hm ht (.inl ⟨a, rfl, ha⟩)) W hW)
  have HL := Lib.hid (fun W hW => last_says b s hb t 0 5 (lastT_in hm ht (.inr ⟨rfl, hl⟩)) W hW)
  have haM := ha.1.2.1
  have hta := ha.2.1
  obtain ⟨ya, ma, da, h_a, ia, ka, hmaya, hnuma, hfita⟩ := fired hm ha.1
  have hSa := fun W hW => Civ.split_in ya ma da h_a ia 0 ka W hW hmaya
  rw [hnuma] at hSa
  have hFa := fun W hW => fits_any b s hb ya ma da h_a ia 0 ka (may_ints hmaya) W hW
  rw [hfita] at hFa
  have HSa := Lib.hid hSa
  have HFa := Lib.hid hFa
  have HLa := Lib.hid (fun W hW => last_says b s hb a a 0 (lastT_in hm (by omega) (.inl ⟨a, rfl, Fire.last_self ha.1⟩)) W hW)
  clear hmaya hnuma hfita hSa hFa
  obtain ⟨mm, hmme⟩ : ∃ mm, mm = if q < 0 then t else t + q % (a - t) := ⟨_, rfl⟩
  have hmm : t ≤ mm ∧ mm < a := by
    rw [hmme]
    split
    · omega
    · have h1 := Int.emod_nonneg q (show a - t ≠ 0 by omega)
      have h2 := Int.emod_lt_of_pos q (show 0 < a - t by omega)
      omega
  have HAm := Lib.hid (fun W hW => after_says b s hb mm a 0 (afterT_in hm (by omega) (.inl ⟨a, rfl, Fire.after_mid ha hmm.1 hmm.2⟩)) W hW)
  have HLm := Lib.hid (fun W hW => last_says b s hb mm 0 5 (lastT_in hm (by omega) (.inr ⟨rfl, Fire.noLast_mid ha hl hmm.2⟩)) W hW)
  have hmid : ∃ ym mn dm h_m im xm km, Stm.may ym mn dm h_m im xm km ∧ Stm.num ym mn dm h_m im xm = mm ∧ (mm = t ∨ (xm = 0 → Cron.fits b s ym mn dm h_m im xm km = false)) := by
    by_cases he : mm = t
    · obtain ⟨ym, mn, dm, h_m, im, xm, km, h1, h2⟩ := Stm.onto mm (by omega) (by omega)
      exact ⟨ym, mn, dm, h_m, im, xm, km, h1, h2, .inl he⟩
    · obtain ⟨ym, mn, dm, h_m, im, xm, km, h1, h2, h3⟩ := not_fired hm (show 0 ≤ mm ∧ mm < 13569465600 by omega) (Fire.mid_not ha (by omega) hmm.2)
      exact ⟨ym, mn, dm, h_m, im, xm, km, h1, h2, .inr h3⟩
  obtain ⟨ym, mn, dm, h_m, im, xm, km, hmaym, hnumm, hfitm⟩ := hmid
  have hSm := fun W hW => Civ.split_in ym mn dm h_m im xm km W hW hmaym
  rw [hnumm] at hSm
  have hFm := fun W hW => fits_any b s hb ym mn dm h_m im xm km (may_ints hmaym) W hW
  generalize Cron.fits b s ym mn dm h_m im xm km = fv at *
  have hxm := hmaym.2.2.2.2.2.1
  have hxm2 := hmaym.2.2.2.2.2.2.1
  have HSm := Lib.hid hSm
  have HFm := Lib.hid hFm
  have HFIT := Lib.hid hfitm
  have HMME := Lib.hid hmme
  clear hmaym hnumm hSm hFm hfitm hmme
  have HW := Lib.hid hw
  rw [hm] at HM
  have g0 : decide (t < 0) = false := decide_eq_false (by omega)
  have g1 : decide (13569465600 ≤ t) = false := decide_eq_false (by omega)
  clear hb hw ha hl hm
  unfold xval xcells at *
  go_enter Tryd.func4, Tryd.ntmps4
  obtain ⟨x0, x1, x2, x3, x4, x5, x6, x7, x8, x9⟩ := xobj_cells O0.out.row
  go_wp2_with fail
  with_reducible refine (HK.out _ (HW.out.next O0.out.bel)).mono ?_
  rintro e w1 ⟨rfl, b1⟩
  have O1 := Lib.hid (O0.out.below b1)
  clear b1 O0 x0 x1 x2 x3 x4 x5 x6 x7 x8 x9
  obtain ⟨x0, x1, x2, x3, x4, x5, x6, x7, x8, x9⟩ := xobj_cells O1.out.row
  go_wp2_with fail
  with_reducible refine (HA.out _ (HW.out.next O1.out.bel)).mono ?_
  rintro e w2 ⟨rfl, b2⟩
  have O2 := Lib.hid (O1.out.below b2)
  clear b2 O1 x0 x1 x2 x3 x4 x5 x6 x7 x8 x9
  obtain ⟨x0, x1, x2, x3, x4, x5, x6, x7, x8, x9⟩ := xobj_cells O2.out.row
  go_wp2_with fail
  with_reducible refine (HL.out _ (HW.out.next O2.out.bel)).mono ?_
  rintro e w3 ⟨rfl, b3⟩
  have O3 := Lib.hid (O2.out.below b3)
  clear b3 O2 x0 x1 x2 x3 x4 x5 x6 x7 x8 x9
  obtain ⟨x0, x1, x2, x3, x4, x5, x6, x7, x8, x9⟩ := xobj_cells O3.out.row
  go_wp2_with fail
  with_reducible refine (HM.out _ (HW.out.next O3.out.bel).tabs).mono ?_
  rintro e w4 ⟨rfl, b4⟩
  have O4 := Lib.hid (O3.out.below b4)
  clear b4 O3 x0 x1 x2 x3 x4 x5 x6 x7 x8 x9
  obtain ⟨x0, x1, x2, x3, x4, x5, x6, x7, x8, x9⟩ := xobj_cells O4.out.row
  have g3 : decide (a ≤ t) = false := decide_eq_false (by omega)
  go_wp2_with fail
  with_reducible refine (HSa.out _ ((HW.out.next O4.out.bel).mon.on (Below.refl _ _))).mono ?_
  rintro e w5 ⟨rfl, b5⟩
  have P5 := O4.out.below b5
  have C5 := Lib.hid (Civ.Own.newAt P5.bel ya ma da h_a ia 0 ka)
  have O5 := Lib.hid (P5.alloc (.cells #[.int .i64 ya, .int .i64 ma, .int .i64 da, .int .i64 h_a, .int .i64 ia, .int .i64 0, .int .i64 ka] 36))
  clear P5
  clear b5 O4 x0 x1 x2 x3 x4 x5 x6 x7 x8 x9
  obtain ⟨x0, x1, x2, x3, x4, x5, x6, x7, x8, x9⟩ := xobj_cells O5.out.row
  go_wp2_with fail
  generalize w5.heap.size = B5 at *
  generalize w5.alloc (.cells #[.int .i64 ya, .int .i64 ma, .int .i64 da, .int .i64 h_a, .int .i64 ia, .int .i64 0, .int .i64 ka] 36) = A5 at *
  with_reducible refine (HLa.out _ (HW.out.next O5.out.bel)).mono ?_
  rintro e w6 ⟨rfl, b6⟩
  have O6 := Lib.hid (O5.out.below b6)
  have C5 := Lib.hid (C5.out.below b6)
  clear b6 O5 x0 x1 x2 x3 x4 x5 x6 x7 x8 x9
  obtain ⟨x0, x1, x2, x3, x4, x5, x6, x7, x8, x9⟩ := xobj_cells O6.out.row
  obtain ⟨d0, d1, d2, d3, d4, d5, d6⟩ := Civ.clk_cells C5.out.row
  go_wp2_with fail
  with_reducible refine (HFa.out _ (HW.out.next O6.out.bel)).mono ?_
  rintro e w7 ⟨rfl, b7⟩
  have O7 := Lib.hid (O6.out.below b7)
  have C5 := Lib.hid (C5.out.below b7)
  clear b7 O6 x0 x1 x2 x3 x4 x5 x6 x7 x8 x9
  obtain ⟨x0, x1, x2, x3, x4, x5, x6, x7, x8, x9⟩ := xobj_cells O7.out.row
  clear d0 d1 d2 d3 d4 d5 d6
  clear C5
  by_cases hq0 : q < 0
  · have hmt : mm = t := by rw [HMME.out, if_pos hq0]
    rw [hmt] at HSm HAm HLm
    clear hmt HMME HFIT
    have gq := decide_eq_true hq0
    go_wp2_with fail
    with_reducible refine (HSm.out _ ((HW.out.next O7.out.bel).mon.on (Below.refl _ _))).mono ?_
    rintro e w8 ⟨rfl, b8⟩
    have P8 := O7.out.below b8
    have C8 := Lib.hid (Civ.Own.newAt P8.bel ym mn dm h_m im xm km)
    have O8 := Lib.hid (P8.alloc (.cells #[.int .i64 ym, .int .i64 mn, .int .i64 dm, .int .i64 h_m, .int .i64 im, .int .i64 xm, .int .i64 km] 36))
    clear P8
    clear b8 O7 x0 x1 x2 x3 x4 x5 x6 x7 x8 x9
    obtain ⟨x0, x1, x2, x3, x4, x5, x6, x7, x8, x9⟩ := xobj_cells O8.out.row
    go_wp2_with fail
    generalize w8.heap.size = B8 at *
    generalize w8.alloc (.cells #[.int .i64 ym, .int .i64 mn, .int .i64 dm, .int .i64 h_m, .int .i64 im, .int .i64 xm, .int .i64 km] 36) = A8 at *
    with_reducible refine (HAm.out _ (HW.out.next O8.out.bel)).mono ?_
    rintro e w9 ⟨rfl, b9⟩
    have O9 := Lib.hid (O8.out.below b9)
    have C8 := Lib.hid (C8.out.below b9)
    clear b9 O8 x0 x1 x2 x3 x4 x5 x6 x7 x8 x9
    obtain ⟨x0, x1, x2, x3, x4, x5, x6, x7, x8, x9⟩ := xobj_cells O9.out.row
    go_wp2_with fail
    with_reducible refine (HLm.out _ (HW.out.next O9.out.bel)).mono ?_
    rintro e w10 ⟨rfl, b10⟩
    have O10 := Lib.hid (O9.out.below b10)
    have C8 := Lib.hid (C8.out.below b10)
    clear b10 O9 x0 x1 x2 x3 x4 x5 x6 x7 x8 x9
    obtain ⟨x0, x1, x2, x3, x4, x5, x6, x7, x8, x9⟩ := xobj_cells O10.out.row
    obtain ⟨d0, d1, d2, d3, d4, d5, d6⟩ := Civ.clk_cells C8.out.row
    go_wp2_with fail
    go_ret
    exact ⟨rfl, O10.out.bel⟩
  · have hmt : mm = t + q % (a - t) := by rw [HMME.out, if_neg hq0]
    clear HMME
    have gq := decide_eq_false hq0
    go_wp2_with fail
    rw [← hmt]
    clear hmt
    with_reducible refine (HSm.out _ ((HW.out.next O7.out.bel).mon.on (Below.refl _ _))).mono ?_
    rintro e w8 ⟨rfl, b8⟩
    have P8 := O7.out.below b8
    have C8 := Lib.hid (Civ.Own.newAt P8.bel ym mn dm h_m im xm km)
    have O8 := Lib.hid (P8.alloc (.cells #[.int .i64 ym, .int .i64 mn, .int .i64 dm, .int .i64 h_m, .int .i64 im, .int .i64 xm, .int .i64 km] 36))
    clear P8
    clear b8 O7 x0 x1 x2 x3 x4 x5 x6 x7 x8 x9
    obtain ⟨x0, x1, x2, x3, x4, x5, x6, x7, x8, x9⟩ := xobj_cells O8.out.row
    go_wp2_with fail
    generalize w8.heap.size = B8 at *
    generalize w8.alloc (.cells #[.int .i64 ym, .int .i64 mn, .int .i64 dm, .int .i64 h_m, .int .i64 im, .int .i64 xm, .int .i64 km] 36) = A8 at *
    with_reducible refine (HAm.out _ (HW.out.next O8.out.bel)).mono ?_
    rintro e w9 ⟨rfl, b9⟩
    have O9 := Lib.hid (O8.out.below b9)
    have C8 := Lib.hid (C8.out.below b9)
    clear b9 O8 x0 x1 x2 x3 x4 x5 x6 x7 x8 x9
    obtain ⟨x0, x1, x2, x3, x4, x5, x6, x7, x8, x9⟩ := xobj_cells O9.out.row
    go_wp2_with fail
    with_reducible refine (HLm.out _ (HW.out.next O9.out.bel)).mono ?_
    rintro e w10 ⟨rfl, b10⟩
    have O10 := Lib.hid (O9.out.below b10)
    have C8 := Lib.hid (C8.out.below b10)
    clear b10 O9 x0 x1 x2 x3 x4 x5 x6 x7 x8 x9
    obtain ⟨x0, x1, x2, x3, x4, x5, x6, x7, x8, x9⟩ := xobj_cells O10.out.row
    obtain ⟨d0, d1, d2, d3, d4, d5, d6⟩ := Civ.clk_cells C8.out.row
    by_cases he : mm = t
    · have ge : (mm == t) = true := by rw [beq_iff_eq]; exact he
      go_wp2_with fail
      go_ret
      exact ⟨rfl, O10.out.bel⟩
    · have ge : (mm == t) = false := beq_eq_false_iff_ne.2 he
      have HFI := Lib.hid (HFIT.out.resolve_left he)
      by_cases hx : xm = 0
      · subst hx
        go_wp2_with fail
        with_reducible refine (HFm.out _ (HW.out.next O10.out.bel)).mono ?_
        rintro e w11 ⟨rfl, b11⟩
        have O11 := Lib.hid (O10.out.below b11)
        have C8 := Lib.hid (C8.out.below b11)
        clear b11 O10 x0 x1 x2 x3 x4 x5 x6 x7 x8 x9
        obtain ⟨x0, x1, x2, x3, x4, x5, x6, x7, x8, x9⟩ := xobj_cells O11.out.row
        rw [HFI.out (by trivial)]
        go_wp2_with fail
        go_ret
        exact ⟨rfl, O11.out.bel⟩
      · have gx : (xm == 0) = false := beq_eq_false_iff_ne.2 hx
        go_wp2_with fail
        go_ret
        exact ⟨rfl, O10.out.bel⟩

set_option maxRecDepth 100000 in
set_option maxHeartbeats 8000000 in
theorem gap_some_none (b : Nat → Nat) (s : Nat → Bool) (hb : ∀ k, k < 5 → b k < 2 ^ 64) (hm : Cron.may b = true) (t q : Int) (ht : 0 ≤ t ∧ t < 13569465600) (r : Int) (hl : Fire.LastIs b s t r) (ha : Fire.NoAfter b s t) (w : World) (hw : World7 w) :
    Calls Tryd.prog 4 #[xval b s, .int .i64 t, .int .i64 q] w fun e w' => e = .returned (.bool true) ∧ Below w.heap.size w w' := by
  have O0 := Lib.hid (OwnX.new w b s)
  have HK := Lib.hid (fun W hW => known8_any W hW)
  have HM := Lib.hid (fun W hW => mayX_any b s hb W hW)
  have HA := Lib.hid (fun W hW => after_says b s hb t 0 5 (afterT_in hm ht (.inr ⟨rfl, ha⟩)) W hW)
  have HL := Lib.hid (fun W hW => last_says b s hb t r 0 (lastT_in hm ht (.inl ⟨r, rfl, hl⟩)) W hW)
  have hr0 := hl.1.1
  have hrt := hl.2.1
  obtain ⟨y, m, d, h, i, k, hmayr, hnumr, hfitr⟩ := fired hm hl.1
  have hSr := fun W hW => Civ.split_in y m d h i 0 k W hW hmayr
  rw [hnumr] at hSr
  have hFr := fun W hW => fits_any b s hb y m d h i 0 k (may_ints hmayr) W hW
  rw [hfitr] at hFr
  have HSr := Lib.hid hSr
  have HFr := Lib.hid hFr
  have HLr := Lib.hid (fun W hW => last_says b s hb r r 0 (lastT_in hm (by omega) (.inl ⟨r, rfl, Fire.last_self hl.1⟩)) W hW)
  clear hmayr hnumr hfitr hSr hFr
  have HE := Lib.hid (fun W hW => last_says b s hb 13569465599 r 0 (lastT_in hm (by decide) (.inl ⟨r, rfl, Fire.last_end ha hl (by omega)⟩)) W hW)
  have HW := Lib.hid hw
  rw [hm] at HM
  have g0 : decide (t < 0) = false := decide_eq_false (by omega)
  have g1 : decide (13569465600 ≤ t) = false := decide_eq_false (by omega)
  clear hb hw ha hl hm
  unfold xval xcells at *
  go_enter Tryd.func4, Tryd.ntmps4
  obtain ⟨x0, x1, x2, x3, x4, x5, x6, x7, x8, x9⟩ := xobj_cells O0.out.row
  go_wp2_with fail
  with_reducible refine (HK.out _ (HW.out.next O0.out.bel)).mono ?_
  rintro e w1 ⟨rfl, b1⟩
  have O1 := Lib.hid (O0.out.below b1)
  clear b1 O0 x0 x1 x2 x3 x4 x5 x6 x7 x8 x9
  obtain ⟨x0, x1, x2, x3, x4, x5, x6, x7, x8, x9⟩ := xobj_cells O1.out.row
  go_wp2_with fail
  with_reducible refine (HA.out _ (HW.out.next O1.out.bel)).mono ?_
  rintro e w2 ⟨rfl, b2⟩
  have O2 := Lib.hid (O1.out.below b2)
  clear b2 O1 x0 x1 x2 x3 x4 x5 x6 x7 x8 x9
  obtain ⟨x0, x1, x2, x3, x4, x5, x6, x7, x8, x9⟩ := xobj_cells O2.out.row
  go_wp2_with fail
  with_reducible refine (HL.out _ (HW.out.next O2.out.bel)).mono ?_
  rintro e w3 ⟨rfl, b3⟩
  have O3 := Lib.hid (O2.out.below b3)
  clear b3 O2 x0 x1 x2 x3 x4 x5 x6 x7 x8 x9
  obtain ⟨x0, x1, x2, x3, x4, x5, x6, x7, x8, x9⟩ := xobj_cells O3.out.row
  go_wp2_with fail
  with_reducible refine (HM.out _ (HW.out.next O3.out.bel).tabs).mono ?_
  rintro e w4 ⟨rfl, b4⟩
  have O4 := Lib.hid (O3.out.below b4)
  clear b4 O3 x0 x1 x2 x3 x4 x5 x6 x7 x8 x9
  obtain ⟨x0, x1, x2, x3, x4, x5, x6, x7, x8, x9⟩ := xobj_cells O4.out.row
  have g2 : decide (t < r) = false := decide_eq_false (by omega)
  go_wp2_with fail
  with_reducible refine (HSr.out _ ((HW.out.next O4.out.bel).mon.on (Below.refl _ _))).mono ?_
  rintro e w5 ⟨rfl, b5⟩
  have P5 := O4.out.below b5
  have C5 := Lib.hid (Civ.Own.newAt P5.bel y m d h i 0 k)
  have O5 := Lib.hid (P5.alloc (.cells #[.int .i64 y, .int .i64 m, .int .i64 d, .int .i64 h, .int .i64 i, .int .i64 0, .int .i64 k] 36))
  clear P5
  clear b5 O4 x0 x1 x2 x3 x4 x5 x6 x7 x8 x9
  obtain ⟨x0, x1, x2, x3, x4, x5, x6, x7, x8, x9⟩ := xobj_cells O5.out.row
  go_wp2_with fail
  generalize w5.heap.size = B5 at *
  generalize w5.alloc (.cells #[.int .i64 y, .int .i64 m, .int .i64 d, .int .i64 h, .int .i64 i, .int .i64 0, .int .i64 k] 36) = A5 at *
  with_reducible refine (HLr.out _ (HW.out.next O5.out.bel)).mono ?_
  rintro e w6 ⟨rfl, b6⟩
  have O6 := Lib.hid (O5.out.below b6)
  have C5 := Lib.hid (C5.out.below b6)
  clear b6 O5 x0 x1 x2 x3 x4 x5 x6 x7 x8 x9
  obtain ⟨x0, x1, x2, x3, x4, x5, x6, x7, x8, x9⟩ := xobj_cells O6.out.row
  obtain ⟨d0, d1, d2, d3, d4, d5, d6⟩ := Civ.clk_cells C5.out.row
  go_wp2_with fail
  with_reducible refine (HFr.out _ (HW.out.next O6.out.bel)).mono ?_
  rintro e w7 ⟨rfl, b7⟩
  have O7 := Lib.hid (O6.out.below b7)
  have C5 := Lib.hid (C5.out.below b7)
  clear b7 O6 x0 x1 x2 x3 x4 x5 x6 x7 x8 x9
  obtain ⟨x0, x1, x2, x3, x4, x5, x6, x7, x8, x9⟩ := xobj_cells O7.out.row
  clear d0 d1 d2 d3 d4 d5 d6
  clear C5
  go_wp2_with fail
  with_reducible refine (HE.out _ (HW.out.next O7.out.bel)).mono ?_
  rintro e w8 ⟨rfl, b8⟩
  have O8 := Lib.hid (O7.out.below b8)
  clear b8 O7 x0 x1 x2 x3 x4 x5 x6 x7 x8 x9
  obtain ⟨x0, x1, x2, x3, x4, x5, x6, x7, x8, x9⟩ := xobj_cells O8.out.row
  go_wp2_with fail
  go_ret
  exact ⟨rfl, O8.out.bel⟩

set_option maxRecDepth 100000 in
set_option maxHeartbeats 8000000 in
theorem gap_some_some (b : Nat → Nat) (s : Nat → Bool) (hb : ∀ k, k < 5 → b k < 2 ^ 64) (hm : Cron.may b = true) (t q : Int) (ht : 0 ≤ t ∧ t < 13569465600) (r : Int) (hl : Fire.LastIs b s t r) (a : Int) (ha : Fire.AfterIs b s t a) (hq : -9223372036854775808 ≤ q ∧ q ≤ 9223372036854775807) (w : World) (hw : World7 w) :
    Calls Tryd.prog 4 #[xval b s, .int .i64 t, .int .i64 q] w fun e w' => e = .returned (.bool true) ∧ Below w.heap.size w w' := by
  have O0 := Lib.hid (OwnX.new w b s)
  have HK := Lib.hid (fun W hW => known8_any W hW)
  have HM := Lib.hid (fun W hW => mayX_any b s hb W hW)
  have HA := Lib.hid (fun W hW => after_says b s hb t a 0 (afterT_in hm ht (.inl ⟨a, rfl, ha⟩)) W hW)
  have HL := Lib.hid (fun W hW => last_says b s hb t r 0 (lastT_in hm ht (.inl ⟨r, rfl, hl⟩)) W hW)
  have hr0 := hl.1.1
  have hrt := hl.2.1
  obtain ⟨y, m, d, h, i, k, hmayr, hnumr, hfitr⟩ := fired hm hl.1
  have hSr := fun W hW => Civ.split_in y m d h i 0 k W hW hmayr
  rw [hnumr] at hSr
  have hFr := fun W hW => fits_any b s hb y m d h i 0 k (may_ints hmayr) W hW
  rw [hfitr] at hFr
  have HSr := Lib.hid hSr
  have HFr := Lib.hid hFr
  have HLr := Lib.hid (fun W hW => last_says b s hb r r 0 (lastT_in hm (by omega) (.inl ⟨r, rfl, Fire.last_self hl.1⟩)) W hW)
  clear hmayr hnumr hfitr hSr hFr
  have haM := ha.1.2.1
  have hta := ha.2.1
  obtain ⟨ya, ma, da, h_a, ia, ka, hmaya, hnuma, hfita⟩ := fired hm ha.1
  have hSa := fun W hW => Civ.split_in ya ma da h_a ia 0 ka W hW hmaya
  rw [hnuma] at hSa
  have hFa := fun W hW => fits_any b s hb ya ma da h_a ia 0 ka (may_ints hmaya) W hW
  rw [hfita] at hFa
  have HSa := Lib.hid hSa
  have HFa := Lib.hid hFa
  have HLa := Lib.hid (fun W hW => last_says b s hb a a 0 (lastT_in hm (by omega) (.inl ⟨a, rfl, Fire.last_self ha.1⟩)) W hW)
  clear hmaya hnuma hfita hSa hFa
  obtain ⟨mm, hmme⟩ : ∃ mm, mm = if q < 0 then t else t + q % (a - t) := ⟨_, rfl⟩
  have hmm : t ≤ mm ∧ mm < a := by
    rw [hmme]
    split
    · omega
    · have h1 := Int.emod_nonneg q (show a - t ≠ 0 by omega)
      have h2 := Int.emod_lt_of_pos q (show 0 < a - t by omega)
      omega
  have HAm := Lib.hid (fun W hW => after_says b s hb mm a 0 (afterT_in hm (by omega) (.inl ⟨a, rfl, Fire.after_mid ha hmm.1 hmm.2⟩)) W hW)
  have HLm := Lib.hid (fun W hW => last_says b s hb mm r 0 (lastT_in hm (by omega) (.inl ⟨r, rfl, Fire.last_mid ha hl hmm.1 hmm.2⟩)) W hW)
  have hmid : ∃ ym mn dm h_m im xm km, Stm.may ym mn dm h_m im xm km ∧ Stm.num ym mn dm h_m im xm = mm ∧ (mm = t ∨ (xm = 0 → Cron.fits b s ym mn dm h_m im xm km = false)) := by
    by_cases he : mm = t
    · obtain ⟨ym, mn, dm, h_m, im, xm, km, h1, h2⟩ := Stm.onto mm (by omega) (by omega)
      exact ⟨ym, mn, dm, h_m, im, xm, km, h1, h2, .inl he⟩
    · obtain ⟨ym, mn, dm, h_m, im, xm, km, h1, h2, h3⟩ := not_fired hm (show 0 ≤ mm ∧ mm < 13569465600 by omega) (Fire.mid_not ha (by omega) hmm.2)
      exact ⟨ym, mn, dm, h_m, im, xm, km, h1, h2, .inr h3⟩
  obtain ⟨ym, mn, dm, h_m, im, xm, km, hmaym, hnumm, hfitm⟩ := hmid
  have hSm := fun W hW => Civ.split_in ym mn dm h_m im xm km W hW hmaym
  rw [hnumm] at hSm
  have hFm := fun W hW => fits_any b s hb ym mn dm h_m im xm km (may_ints hmaym) W hW
  generalize Cron.fits b s ym mn dm h_m im xm km = fv at *
  have hxm := hmaym.2.2.2.2.2.1
  have hxm2 := hmaym.2.2.2.2.2.2.1
  have HSm := Lib.hid hSm
  have HFm := Lib.hid hFm
  have HFIT := Lib.hid hfitm
  have HMME := Lib.hid hmme
  clear hmaym hnumm hSm hFm hfitm hmme
  have HW := Lib.hid hw
  rw [hm] at HM
  have g0 : decide (t < 0) = false := decide_eq_false (by omega)
  have g1 : decide (13569465600 ≤ t) = false := decide_eq_false (by omega)
  clear hb hw ha hl hm
  unfold xval xcells at *
  go_enter Tryd.func4, Tryd.ntmps4
  obtain ⟨x0, x1, x2, x3, x4, x5, x6, x7, x8, x9⟩ := xobj_cells O0.out.row
  go_wp2_with fail
  with_reducible refine (HK.out _ (HW.out.next O0.out.bel)).mono ?_
  rintro e w1 ⟨rfl, b1⟩
  have O1 := Lib.hid (O0.out.below b1)
  clear b1 O0 x0 x1 x2 x3 x4 x5 x6 x7 x8 x9
  obtain ⟨x0, x1, x2, x3, x4, x5, x6, x7, x8, x9⟩ := xobj_cells O1.out.row
  go_wp2_with fail
  with_reducible refine (HA.out _ (HW.out.next O1.out.bel)).mono ?_
  rintro e w2 ⟨rfl, b2⟩
  have O2 := Lib.hid (O1.out.below b2)
  clear b2 O1 x0 x1 x2 x3 x4 x5 x6 x7 x8 x9
  obtain ⟨x0, x1, x2, x3, x4, x5, x6, x7, x8, x9⟩ := xobj_cells O2.out.row
  go_wp2_with fail
  with_reducible refine (HL.out _ (HW.out.next O2.out.bel)).mono ?_
  rintro e w3 ⟨rfl, b3⟩
  have O3 := Lib.hid (O2.out.below b3)
  clear b3 O2 x0 x1 x2 x3 x4 x5 x6 x7 x8 x9
  obtain ⟨x0, x1, x2, x3, x4, x5, x6, x7, x8, x9⟩ := xobj_cells O3.out.row
  go_wp2_with fail
  with_reducible refine (HM.out _ (HW.out.next O3.out.bel).tabs).mono ?_
  rintro e w4 ⟨rfl, b4⟩
  have O4 := Lib.hid (O3.out.below b4)
  clear b4 O3 x0 x1 x2 x3 x4 x5 x6 x7 x8 x9
  obtain ⟨x0, x1, x2, x3, x4, x5, x6, x7, x8, x9⟩ := xobj_cells O4.out.row
  have g2 : decide (t < r) = false := decide_eq_false (by omega)
  go_wp2_with fail
  with_reducible refine (HSr.out _ ((HW.out.next O4.out.bel).mon.on (Below.refl _ _))).mono ?_
  rintro e w5 ⟨rfl, b5⟩
  have P5 := O4.out.below b5
  have C5 := Lib.hid (Civ.Own.newAt P5.bel y m d h i 0 k)
  have O5 := Lib.hid (P5.alloc (.cells #[.int .i64 y, .int .i64 m, .int .i64 d, .int .i64 h, .int .i64 i, .int .i64 0, .int .i64 k] 36))
  clear P5
  clear b5 O4 x0 x1 x2 x3 x4 x5 x6 x7 x8 x9
  obtain ⟨x0, x1, x2, x3, x4, x5, x6, x7, x8, x9⟩ := xobj_cells O5.out.row
  go_wp2_with fail
  generalize w5.heap.size = B5 at *
  generalize w5.alloc (.cells #[.int .i64 y, .int .i64 m, .int .i64 d, .int .i64 h, .int .i64 i, .int .i64 0, .int .i64 k] 36) = A5 at *
  with_reducible refine (HLr.out _ (HW.out.next O5.out.bel)).mono ?_
  rintro e w6 ⟨rfl, b6⟩
  have O6 := Lib.hid (O5.out.below b6)
  have C5 := Lib.hid (C5.out.below b6)
  clear b6 O5 x0 x1 x2 x3 x4 x5 x6 x7 x8 x9
  obtain ⟨x0, x1, x2, x3, x4, x5, x6, x7, x8, x9⟩ := xobj_cells O6.out.row
  obtain ⟨d0, d1, d2, d3, d4, d5, d6⟩ := Civ.clk_cells C5.out.row
  go_wp2_with fail
  with_reducible refine (HFr.out _ (HW.out.next O6.out.bel)).mono ?_
  rintro e w7 ⟨rfl, b7⟩
  have O7 := Lib.hid (O6.out.below b7)
  have C5 := Lib.hid (C5.out.below b7)
  clear b7 O6 x0 x1 x2 x3 x4 x5 x6 x7 x8 x9
  obtain ⟨x0, x1, x2, x3, x4, x5, x6, x7, x8, x9⟩ := xobj_cells O7.out.row
  clear d0 d1 d2 d3 d4 d5 d6
  clear C5
  have g3 : decide (a ≤ t) = false := decide_eq_false (by omega)
  go_wp2_with fail
  with_reducible refine (HSa.out _ ((HW.out.next O7.out.bel).mon.on (Below.refl _ _))).mono ?_
  rintro e w8 ⟨rfl, b8⟩
  have P8 := O7.out.below b8
  have C8 := Lib.hid (Civ.Own.newAt P8.bel ya ma da h_a ia 0 ka)
  have O8 := Lib.hid (P8.alloc (.cells #[.int .i64 ya, .int .i64 ma, .int .i64 da, .int .i64 h_a, .int .i64 ia, .int .i64 0, .int .i64 ka] 36))
  clear P8
  clear b8 O7 x0 x1 x2 x3 x4 x5 x6 x7 x8 x9
  obtain ⟨x0, x1, x2, x3, x4, x5, x6, x7, x8, x9⟩ := xobj_cells O8.out.row
  go_wp2_with fail
  generalize w8.heap.size = B8 at *
  generalize w8.alloc (.cells #[.int .i64 ya, .int .i64 ma, .int .i64 da, .int .i64 h_a, .int .i64 ia, .int .i64 0, .int .i64 ka] 36) = A8 at *
  with_reducible refine (HLa.out _ (HW.out.next O8.out.bel)).mono ?_
  rintro e w9 ⟨rfl, b9⟩
  have O9 := Lib.hid (O8.out.below b9)
  have C8 := Lib.hid (C8.out.below b9)
  clear b9 O8 x0 x1 x2 x3 x4 x5 x6 x7 x8 x9
  obtain ⟨x0, x1, x2, x3, x4, x5, x6, x7, x8, x9⟩ := xobj_cells O9.out.row
  obtain ⟨d0, d1, d2, d3, d4, d5, d6⟩ := Civ.clk_cells C8.out.row
  go_wp2_with fail
  with_reducible refine (HFa.out _ (HW.out.next O9.out.bel)).mono ?_
  rintro e w10 ⟨rfl, b10⟩
  have O10 := Lib.hid (O9.out.below b10)
  have C8 := Lib.hid (C8.out.below b10)
  clear b10 O9 x0 x1 x2 x3 x4 x5 x6 x7 x8 x9
  obtain ⟨x0, x1, x2, x3, x4, x5, x6, x7, x8, x9⟩ := xobj_cells O10.out.row
  clear d0 d1 d2 d3 d4 d5 d6
  clear C8
  by_cases hq0 : q < 0
  · have hmt : mm = t := by rw [HMME.out, if_pos hq0]
    rw [hmt] at HSm HAm HLm
    clear hmt HMME HFIT
    have gq := decide_eq_true hq0
    go_wp2_with fail
    with_reducible refine (HSm.out _ ((HW.out.next O10.out.bel).mon.on (Below.refl _ _))).mono ?_
    rintro e w11 ⟨rfl, b11⟩
    have P11 := O10.out.below b11
    have C11 := Lib.hid (Civ.Own.newAt P11.bel ym mn dm h_m im xm km)
    have O11 := Lib.hid (P11.alloc (.cells #[.int .i64 ym, .int .i64 mn, .int .i64 dm, .int .i64 h_m, .int .i64 im, .int .i64 xm, .int .i64 km] 36))
    clear P11
    clear b11 O10 x0 x1 x2 x3 x4 x5 x6 x7 x8 x9
    obtain ⟨x0, x1, x2, x3, x4, x5, x6, x7, x8, x9⟩ := xobj_cells O11.out.row
    go_wp2_with fail
    generalize w11.heap.size = B11 at *
    generalize w11.alloc (.cells #[.int .i64 ym, .int .i64 mn, .int .i64 dm, .int .i64 h_m, .int .i64 im, .int .i64 xm, .int .i64 km] 36) = A11 at *
    with_reducible refine (HAm.out _ (HW.out.next O11.out.bel)).mono ?_
    rintro e w12 ⟨rfl, b12⟩
    have O12 := Lib.hid (O11.out.below b12)
    have C11 := Lib.hid (C11.out.below b12)
    clear b12 O11 x0 x1 x2 x3 x4 x5 x6 x7 x8 x9
    obtain ⟨x0, x1, x2, x3, x4, x5, x6, x7, x8, x9⟩ := xobj_cells O12.out.row
    go_wp2_with fail
    with_reducible refine (HLm.out _ (HW.out.next O12.out.bel)).mono ?_
    rintro e w13 ⟨rfl, b13⟩
    have O13 := Lib.hid (O12.out.below b13)
    have C11 := Lib.hid (C11.out.below b13)
    clear b13 O12 x0 x1 x2 x3 x4 x5 x6 x7 x8 x9
    obtain ⟨x0, x1, x2, x3, x4, x5, x6, x7, x8, x9⟩ := xobj_cells O13.out.row
    obtain ⟨d0, d1, d2, d3, d4, d5, d6⟩ := Civ.clk_cells C11.out.row
    go_wp2_with fail
    go_ret
    exact ⟨rfl, O13.out.bel⟩
  · have hmt : mm = t + q % (a - t) := by rw [HMME.out, if_neg hq0]
    clear HMME
    have gq := decide_eq_false hq0
    go_wp2_with fail
    rw [← hmt]
    clear hmt
    with_reducible refine (HSm.out _ ((HW.out.next O10.out.bel).mon.on (Below.refl _ _))).mono ?_
    rintro e w11 ⟨rfl, b11⟩
    have P11 := O10.out.below b11
    have C11 := Lib.hid (Civ.Own.newAt P11.bel ym mn dm h_m im xm km)
    have O11 := Lib.hid (P11.alloc (.cells #[.int .i64 ym, .int .i64 mn, .int .i64 dm, .int .i64 h_m, .int .i64 im, .int .i64 xm, .int .i64 km] 36))
    clear P11
    clear b11 O10 x0 x1 x2 x3 x4 x5 x6 x7 x8 x9
    obtain ⟨x0, x1, x2, x3, x4, x5, x6, x7, x8, x9⟩ := xobj_cells O11.out.row
    go_wp2_with fail
    generalize w11.heap.size = B11 at *
    generalize w11.alloc (.cells #[.int .i64 ym, .int .i64 mn, .int .i64 dm, .int .i64 h_m, .int .i64 im, .int .i64 xm, .int .i64 km] 36) = A11 at *
    with_reducible refine (HAm.out _ (HW.out.next O11.out.bel)).mono ?_
    rintro e w12 ⟨rfl, b12⟩
    have O12 := Lib.hid (O11.out.below b12)
    have C11 := Lib.hid (C11.out.below b12)
    clear b12 O11 x0 x1 x2 x3 x4 x5 x6 x7 x8 x9
    obtain ⟨x0, x1, x2, x3, x4, x5, x6, x7, x8, x9⟩ := xobj_cells O12.out.row
    go_wp2_with fail
    with_reducible refine (HLm.out _ (HW.out.next O12.out.bel)).mono ?_
    rintro e w13 ⟨rfl, b13⟩
    have O13 := Lib.hid (O12.out.below b13)
    have C11 := Lib.hid (C11.out.below b13)
    clear b13 O12 x0 x1 x2 x3 x4 x5 x6 x7 x8 x9
    obtain ⟨x0, x1, x2, x3, x4, x5, x6, x7, x8, x9⟩ := xobj_cells O13.out.row
    obtain ⟨d0, d1, d2, d3, d4, d5, d6⟩ := Civ.clk_cells C11.out.row
    by_cases he : mm = t
    · have ge : (mm == t) = true := by rw [beq_iff_eq]; exact he
      go_wp2_with fail
      go_ret
      exact ⟨rfl, O13.out.bel⟩
    · have ge : (mm == t) = false := beq_eq_false_iff_ne.2 he
      have HFI := Lib.hid (HFIT.out.resolve_left he)
      by_cases hx : xm = 0
      · subst hx
        go_wp2_with fail
        with_reducible refine (HFm.out _ (HW.out.next O13.out.bel)).mono ?_
        rintro e w14 ⟨rfl, b14⟩
        have O14 := Lib.hid (O13.out.below b14)
        have C11 := Lib.hid (C11.out.below b14)
        clear b14 O13 x0 x1 x2 x3 x4 x5 x6 x7 x8 x9
        obtain ⟨x0, x1, x2, x3, x4, x5, x6, x7, x8, x9⟩ := xobj_cells O14.out.row
        rw [HFI.out (by trivial)]
        go_wp2_with fail
        go_ret
        exact ⟨rfl, O14.out.bel⟩
      · have gx : (xm == 0) = false := beq_eq_false_iff_ne.2 hx
        go_wp2_with fail
        go_ret
        exact ⟨rfl, O13.out.bel⟩

namespace Fire
theorem after_some {b : Nat → Nat} {s : Nat → Bool} {t : Int} : ∀ (n : Nat) (u : Int), t < u → u - t ≤ n → fires b s u → ∃ a, AfterIs b s t a
  | 0, _, h1, h2, _ => absurd h1 (by omega)
  | n + 1, u, h1, h2, hf => by
    by_cases h : ∃ v, (t < v ∧ v < u) ∧ fires b s v
    · obtain ⟨v, hv, hvf⟩ := h
      exact after_some n v hv.1 (by omega) hvf
    · exact ⟨u, hf, h1, fun v q1 q2 hv => h ⟨v, ⟨q1, q2⟩, hv⟩⟩
theorem after_or (b : Nat → Nat) (s : Nat → Bool) (t : Int) : (∃ a, AfterIs b s t a) ∨ NoAfter b s t := by
  by_cases h : ∃ u, t < u ∧ fires b s u
  · obtain ⟨u, h1, hf⟩ := h
    exact .inl (after_some (u - t).toNat u h1 (by omega) hf)
  · exact .inr fun u h1 hf => h ⟨u, h1, hf⟩
theorem last_some {b : Nat → Nat} {s : Nat → Bool} {t : Int} : ∀ (n : Nat) (u : Int), u ≤ t → t - u < n → fires b s u → ∃ a, LastIs b s t a
  | 0, _, h1, h2, _ => absurd h1 (by omega)
  | n + 1, u, h1, h2, hf => by
    by_cases h : ∃ v, (u < v ∧ v ≤ t) ∧ fires b s v
    · obtain ⟨v, hv, hvf⟩ := h
      exact last_some n v hv.2 (by omega) hvf
    · exact ⟨u, hf, h1, fun v q1 q2 hv => h ⟨v, ⟨q1, q2⟩, hv⟩⟩
theorem last_or (b : Nat → Nat) (s : Nat → Bool) (t : Int) : (∃ a, LastIs b s t a) ∨ NoLast b s t := by
  by_cases h : ∃ u, u ≤ t ∧ fires b s u
  · obtain ⟨u, h1, hf⟩ := h
    exact .inl (last_some ((t - u).toNat + 1) u h1 (by omega) hf)
  · exact .inr fun u h1 hf => h ⟨u, h1, hf⟩
end Fire

theorem gap_walk (b : Nat → Nat) (s : Nat → Bool) (hb : ∀ k, k < 5 → b k < 2 ^ 64) (t q : Int) (hq : -9223372036854775808 ≤ q ∧ q ≤ 9223372036854775807) (w : World) (hw : World7 w) :
    Calls Tryd.prog 4 #[xval b s, .int .i64 t, .int .i64 q] w fun e w' => e = .returned (.bool true) ∧ Below w.heap.size w w' := by
  cases hm : Cron.may b
  · exact gap_out b s hb t q 2 (by decide) (afterT_bad hm) (lastT_bad hm) false hm (.inl rfl) w hw
  · by_cases ht : 0 ≤ t ∧ t < 13569465600
    · rcases Fire.last_or b s t with ⟨r, hl⟩ | hl
      · rcases Fire.after_or b s t with ⟨a, ha⟩ | ha
        · exact gap_some_some b s hb hm t q ht r hl a ha hq w hw
        · exact gap_some_none b s hb hm t q ht r hl ha w hw
      · rcases Fire.after_or b s t with ⟨a, ha⟩ | ha
        · exact gap_none_some b s hb hm t q ht hl a ha hq w hw
        · exact gap_none_none b s hb hm t q ht hl ha w hw
    · have ho : t < 0 ∨ 13569465600 ≤ t := by omega
      refine gap_out b s hb t q 50 (by decide) (afterT_out hm ho) (lastT_out hm ho) true hm (.inr ?_) w hw
      by_cases h0 : t < 0
      · exact .inl ⟨rfl, decide_eq_true h0⟩
      · exact .inr ⟨rfl, decide_eq_false h0, decide_eq_true (by omega)⟩
end Go.Proofs.YtgcineaodfomeaaDoor
