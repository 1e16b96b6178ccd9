/- The examples of stage 8's own text, as mathematics: which firings they are. The law's own examples: 'known' answers true. -/
import Derived.Test.YtgcineaodfomeaaDoorTexts8
import Derived.Test.YtgcineaodfomeaaDoorCount8
import Derived.Test.YtgcineaodfomeaaDoorLast8
namespace Go.Proofs.YtgcineaodfomeaaDoor
open Go.RowKit

def tx (i : Nat) : List UInt8 := x8.getD i []
theorem tx_bits : (Cron.rb (tx 0) 0 = 2 ^ 30 ∧ Cron.rb (tx 0) 1 = 2 ^ 12 ∧ Cron.rb (tx 0) 2 = 2 ^ 29 ∧ Cron.rb (tx 0) 3 = 2 ^ 2 ∧ Cron.rs (tx 0) 4 = true) ∧ (Cron.rb (tx 1) 2 = 2 ^ 30 ∧ Cron.rb (tx 1) 3 = 2 ^ 2 ∧ Cron.rs (tx 1) 4 = true) ∧ Cron.rb (tx 3) 0 = 2 ^ 5 ∧
    (Cron.rb (tx 4) 0 = 2 ^ 0 ∧ Cron.rs (tx 4) 4 = true) := by decide +kernel
theorem tx_all : (∀ h : Fin 24, Fld.has (Cron.rb (tx 4) 1) (h.val : Int) = true) ∧ (∀ d : Fin 32, 1 ≤ d.val → Fld.has (Cron.rb (tx 4) 2) (d.val : Int) = true) ∧ (∀ m : Fin 13, 1 ≤ m.val → Fld.has (Cron.rb (tx 4) 3) (m.val : Int) = true) ∧ (∀ k : Fin 7, Fld.has (Cron.rb (tx 4) 4) (k.val : Int) = true) := by decide +kernel
theorem tx_may : ∀ i, i < 5 → Cron.may (Cron.rb (tx i)) = true := fun i hi => x8_may ⟨i, by omega⟩
theorem has_pow {k : Nat} {n : Int} (h : Fld.has (2 ^ k) n = true) : n = k := by
  unfold Fld.has at h
  simp only [Bool.and_eq_true, decide_eq_true_eq, Nat.testBit_two_pow] at h
  omega
namespace Fire
theorem day_of {b : Nat → Nat} {s : Nat → Bool} {n : Int} {dd mm : Nat} (h : dayOk b s n) (hs : s 4 = true) (h2 : b 2 = 2 ^ dd) (h3 : b 3 = 2 ^ mm) : ∃ y, Cal.may y mm dd ∧ Cal.num y mm dd = n := by
  obtain ⟨y, m, d, hm, hn, hd⟩ := h
  unfold Cron.days at hd
  rw [if_pos (.inr hs), Bool.and_eq_true, Bool.and_eq_true, h2, h3] at hd
  have e1 := has_pow hd.1
  have e2 := has_pow hd.2.1
  subst e1
  subst e2
  exact ⟨y, hm, hn⟩
theorem min_of {b : Nat → Nat} {q : Int} {i h : Nat} (hq : minOk b q = true) (h0 : b 0 = 2 ^ i) (h1 : b 1 = 2 ^ h) : q % 60 = i ∧ q / 60 = h := by
  unfold minOk at hq
  rw [Bool.and_eq_true, h0, h1] at hq
  exact ⟨has_pow hq.1, has_pow hq.2⟩
end Fire
theorem k8_a : Fire.AfterIs (Cron.rb (tx 0)) (Cron.rs (tx 0)) 1709209800 1835440200 := by
  obtain ⟨⟨b0, b1, b2, b3, s4⟩, -⟩ := tx_bits
  refine ⟨?_, by decide, fun u h1 h2 hf => ?_⟩
  · have hm : Stm.may 2028 2 29 12 30 0 2 := by decide +kernel
    have hn : Stm.num 2028 2 29 12 30 0 = 1835440200 := by decide +kernel
    rw [← hn]
    exact (Fire.fires_at (tx_may 0 (by decide)) hm).2 ⟨rfl, by decide +kernel⟩
  · obtain ⟨h3, h4, h5, h6, h7⟩ := hf
    obtain ⟨q1, q2⟩ := Fire.min_of h7 b0 b1
    obtain ⟨y, hy, hn⟩ : ∃ y, Cal.may y 2 29 ∧ Cal.num y 2 29 = u / 86400 := Fire.day_of h6 s4 b2 b3
    have m24 : Cal.may 2024 2 29 := by decide +kernel
    have n24 : Cal.num 2024 2 29 = 19782 := by decide +kernel
    have m28 : Cal.may 2028 2 29 := by decide +kernel
    have n28 : Cal.num 2028 2 29 = 21243 := by decide +kernel
    have l1 : Cal.num 2024 2 29 < Cal.num y 2 29 := by rw [n24]; omega
    have l2 : Cal.num y 2 29 < Cal.num 2028 2 29 := by rw [n28]; omega
    rw [Cal.num_lt m24 hy] at l1
    rw [Cal.num_lt hy m28] at l2
    unfold Cal.less at l1 l2
    have hcase : y = 2025 ∨ y = 2026 ∨ y = 2027 := by omega
    rcases hcase with rfl | rfl | rfl
    · revert hy; decide +kernel
    · revert hy; decide +kernel
    · revert hy; decide +kernel
theorem k8_b : Fire.NoAfter (Cron.rb (tx 1)) (Cron.rs (tx 1)) 0 := fun u _ hf => by
  obtain ⟨-, ⟨b2, b3, s4⟩, -⟩ := tx_bits
  obtain ⟨y, hy, -⟩ : ∃ y, Cal.may y 2 30 ∧ Cal.num y 2 30 = u / 86400 := Fire.day_of hf.2.2.2.1 s4 b2 b3
  have h := hy.2.2.2
  unfold Cal.long at h
  simp at h
  split at h <;> omega
theorem k8_c : Fire.LastIs (Cron.rb (tx 2)) (Cron.rs (tx 2)) 0 0 := by
  refine Fire.last_self ?_
  have hm : Stm.may 1970 1 1 0 0 0 4 := by decide +kernel
  have hn : Stm.num 1970 1 1 0 0 0 = 0 := by decide +kernel
  have h := (Fire.fires_at (s := Cron.rs (tx 2)) (tx_may 2 (by decide)) hm).2 ⟨rfl, by decide +kernel⟩
  rw [hn] at h
  exact h
theorem k8_d : Fire.NoLast (Cron.rb (tx 3)) (Cron.rs (tx 3)) 0 := fun u hu hf => by
  have h0 := hf.1
  obtain rfl : u = 0 := by omega
  have hk := hf.2.2.2.2
  revert hk
  decide +kernel
/-- each full hour is a firing of the fifth text, and nothing else is -/
theorem hour_is {u : Int} : Fire.fires (Cron.rb (tx 4)) (Cron.rs (tx 4)) u ↔ 0 ≤ u ∧ u < 13569465600 ∧ u % 3600 = 0 := by
  obtain ⟨-, -, -, b0, s4⟩ := tx_bits
  constructor
  · rintro ⟨h1, h2, h3, _, h5⟩
    unfold Fire.minOk at h5
    rw [Bool.and_eq_true, b0] at h5
    have := has_pow h5.1
    refine ⟨h1, h2, ?_⟩
    omega
  · rintro ⟨h1, h2, h3⟩
    obtain ⟨a1, a2, a3, a4⟩ := tx_all
    refine ⟨h1, h2, by omega, ?_, ?_⟩
    · obtain ⟨y, m, d, hm, hn⟩ := Cal.num_onto (u / 86400) (by omega) (by omega)
      refine ⟨y, m, d, hm, hn, ?_⟩
      have hmo := Cal.may_month hm
      have hlg := Cal.long_pos (y := y) hmo
      have hd := hm.2.2
      have hk : 0 ≤ Cal.week (u / 86400) ∧ Cal.week (u / 86400) ≤ 6 := by unfold Cal.week; omega
      unfold Cron.days
      rw [if_pos (.inr s4)]
      have e1 := a3 ⟨m.toNat, by omega⟩ (by show 1 ≤ m.toNat; omega)
      have e2 := a2 ⟨d.toNat, by omega⟩ (by show 1 ≤ d.toNat; omega)
      have e3 := a4 ⟨(Cal.week (u / 86400)).toNat, by omega⟩
      rw [show ((m.toNat : Nat) : Int) = m by omega] at e1
      rw [show ((d.toNat : Nat) : Int) = d by omega] at e2
      rw [show (((Cal.week (u / 86400)).toNat : Nat) : Int) = Cal.week (u / 86400) by omega] at e3
      rw [e1, e2, e3]
      rfl
    · unfold Fire.minOk
      have e1 := a1 ⟨(u % 86400 / 60 / 60).toNat, by omega⟩
      rw [show (((u % 86400 / 60 / 60).toNat : Nat) : Int) = u % 86400 / 60 / 60 by omega] at e1
      rw [e1, show u % 86400 / 60 % 60 = 0 by omega, b0]
      rfl
theorem hours_told {t m : Int} {xs : List Int} (h : Fire.Chain (Cron.rb (tx 4)) (Cron.rs (tx 4)) 0 t xs m) : m = 3600 * (xs.length : Int) := by
  induction h with
  | start => rfl
  | @next pre m x h0 h1 h2 ih =>
    rw [List.length_append, List.length_singleton]
    have hx := hour_is.1 h1.1
    have hlt := h1.2.1
    have hno := h1.2.2 (m + 3600) (by omega)
    rcases Int.lt_or_le (m + 3600) x with q | q
    · exact absurd (hour_is.2 ⟨by omega, by omega, by omega⟩) (hno q)
    · omega
theorem k8_e {q k : Nat} (hq : q = 99 ∨ q = 10) (h : Counts (Cron.rb (tx 4)) (Cron.rs (tx 4)) 0 86400 q k) : k = if q = 99 then 24 else 10 := by
  rcases h with ⟨xs, ⟨m, hc, hcl⟩, hl, rfl⟩ | ⟨xs, m, hc, hl, rfl⟩
  · have hm := hours_told hc
    have hle := hc.le
    have hn : ¬ m + 3600 ≤ 86400 := fun hq => hcl (m + 3600) (by omega) hq (hour_is.2 ⟨by omega, by omega, by omega⟩)
    rcases hq with rfl | rfl
    · rw [if_pos rfl]; omega
    · omega
  · have hm := hours_told hc
    have hle := hc.le
    rcases hq with rfl | rfl
    · omega
    · rfl
end Go.Proofs.YtgcineaodfomeaaDoor

namespace Go.Proofs.YtgcineaodfomeaaDoor
open Go.RowKit

def txv (i : Nat) : Value := xval (Cron.rb (tx i)) (Cron.rs (tx i))
set_option maxRecDepth 100000 in
set_option maxHeartbeats 1000000 in
theorem parsed_any (i : Nat) (hi : i < 5) (w : World) : Calls Tryd.prog 13 #[.string (ba (tx i))] w fun e w' => e = .returned (txv i) ∧ Below w.heap.size w w' := by
  have hP := fun W => x8_any ⟨i, by omega⟩ W
  change ∀ W, Calls Tryd.prog 31 #[.string (ba (tx i))] W fun e w' => e = .returned (.tuple #[xval (Cron.rb (tx i)) (Cron.rs (tx i)), .int .i64 0]) ∧ Below W.heap.size W w' at hP
  have HP := Lib.hid hP
  have O := Lib.hid (OwnX.new w (fun _ => 0) (fun _ => false))
  have z0 : (((0 : Nat) : Int)) = 0 := rfl
  have HX : Hid (xval (Cron.rb (tx i)) (Cron.rs (tx i)) = txv i) := rfl
  generalize txv i = V at *
  generalize Cron.rb (tx i) = B at *
  generalize Cron.rs (tx i) = S at *
  clear hP
  unfold xval xcells at HP
  simp only [z0] at O
  go_enter Tryd.func13, Tryd.ntmps13
  go_wp2_with fail
  with_reducible refine (HP.out _).mono ?_
  rintro e w1 ⟨rfl, hb1⟩
  have O1 := Lib.hid ((O.out.below hb1).below ((Below.refl _ _).alloc (Nat.le_refl _) (.cells #[.int .u64 ((B 0 : Nat) : Int), .bool (S 0), .int .u64 ((B 1 : Nat) : Int), .bool (S 1), .int .u64 ((B 2 : Nat) : Int), .bool (S 2), .int .u64 ((B 3 : Nat) : Int), .bool (S 3), .int .u64 ((B 4 : Nat) : Int), .bool (S 4)] 26)))
  obtain ⟨c0, c1, c2, c3, c4, c5, c6, c7, c8, c9⟩ := xobj_cells O1.out.row
  have f := fun j => row_free O1.out.row j
  clear hb1 O HP
  simp only [z0] at c0 c2 c4 c6 c8
  go_wp2_with fail
  change bodyPost _ _ _ _ _ (putX _ w.heap.size B S)
  have hbF := putX_below (b := B) (s := S) O1.out.bel (Nat.le_refl w.heap.size)
  have hrF := putX_row (b := B) (s := S) O1.out.row
  clear c0 c1 c2 c3 c4 c5 c6 c7 c8 c9 f
  generalize putX _ w.heap.size B S = WF at *
  obtain ⟨c0, c1, c2, c3, c4, c5, c6, c7, c8, c9⟩ := xobj_cells hrF
  rw [← HX.out]
  refine bodyPost_ret (v := xval B S) (by simp [results, Tryd.results13, go_sem, c0, c1, c2, c3, c4, c5, c6, c7, c8, c9, xval, xcells]) rfl ⟨rfl, hbF⟩

theorem tx_lt (i : Nat) (hi : i < 5) : ∀ k, k < 5 → Cron.rb (tx i) k < 2 ^ 64 := rb_lt (x8_plain ⟨i, by omega⟩)
theorem known_after (i : Nat) (hi : i < 5) (t : Int) (p : Int × Int) (h : Fire.AfterT (Cron.rb (tx i)) (Cron.rs (tx i)) t p) (w : World) (hw : World7 w) :
    Calls Tryd.prog 6 #[txv i, .int .i64 t] w fun e w' => e = .returned (.tuple #[.int .i64 p.1, .int .i64 p.2]) ∧ Below w.heap.size w w' :=
  (after_any _ _ (tx_lt i hi) t w hw).mono fun _ _ ⟨q, hq, he, hb⟩ => by rw [Fire.afterT_one hq h] at he; exact ⟨he, hb⟩
theorem known_last (i : Nat) (hi : i < 5) (t : Int) (p : Int × Int) (h : Fire.LastT (Cron.rb (tx i)) (Cron.rs (tx i)) t p) (w : World) (hw : World7 w) :
    Calls Tryd.prog 8 #[txv i, .int .i64 t] w fun e w' => e = .returned (.tuple #[.int .i64 p.1, .int .i64 p.2]) ∧ Below w.heap.size w w' :=
  (last_any _ _ (tx_lt i hi) t w hw).mono fun _ _ ⟨q, hq, he, hb⟩ => by rw [Fire.lastT_one hq h] at he; exact ⟨he, hb⟩
theorem known_count (q : Nat) (hq : q = 99 ∨ q = 10) (w : World) (hw : World7 w) :
    Calls Tryd.prog 14 #[txv 4, .int .i64 0, .int .i64 86400, .int .i64 (q : Int)] w fun e w' => e = .returned (.tuple #[.int .i64 (if q = 99 then 24 else 10), .int .i64 0]) ∧ Below w.heap.size w w' :=
  (count_yes _ _ (tx_lt 4 (by decide)) (tx_may 4 (by decide)) 0 86400 (by decide) (by decide) q w hw).mono fun _ _ ⟨k, hk, he, hb⟩ => by
    rw [k8_e hq hk] at he
    refine ⟨?_, hb⟩
    rw [he]
    rcases hq with rfl | rfl <;> rfl

set_option maxRecDepth 100000 in
set_option maxHeartbeats 4000000 in
theorem known8_any (w : World) (hw : World7 w) : Calls Tryd.prog 5 #[] w fun e w' => e = .returned (.bool true) ∧ Below w.heap.size w w' := by
  have HP := Lib.hid (fun i hi W => parsed_any i hi W)
  have HA := Lib.hid (known_after 0 (by decide) 1709209800 (1835440200, 0) (afterT_in (tx_may 0 (by decide)) (by decide) (.inl ⟨_, rfl, k8_a⟩)))
  have HB := Lib.hid (known_after 1 (by decide) 0 (0, 5) (afterT_in (tx_may 1 (by decide)) (by decide) (.inr ⟨rfl, k8_b⟩)))
  have HC := Lib.hid (known_last 2 (by decide) 0 (0, 0) (lastT_in (tx_may 2 (by decide)) (by decide) (.inl ⟨_, rfl, k8_c⟩)))
  have HD := Lib.hid (known_last 3 (by decide) 0 (0, 5) (lastT_in (tx_may 3 (by decide)) (by decide) (.inr ⟨rfl, k8_d⟩)))
  have HE : Hid (∀ W, World7 W → Calls Tryd.prog 14 #[txv 4, .int .i64 0, .int .i64 86400, .int .i64 99] W fun e w' => e = .returned (.tuple #[.int .i64 24, .int .i64 0]) ∧ Below W.heap.size W w') := fun W hW => known_count 99 (.inl rfl) W hW
  have HF : Hid (∀ W, World7 W → Calls Tryd.prog 14 #[txv 4, .int .i64 0, .int .i64 86400, .int .i64 10] W fun e w' => e = .returned (.tuple #[.int .i64 10, .int .i64 0]) ∧ Below W.heap.size W w') := fun W hW => known_count 10 (.inr rfl) W hW
  have P0 : Hid (∀ W, Calls Tryd.prog 13 #[.string ⟨#[51, 48, 32, 49, 50, 32, 50, 57, 32, 50, 32, 42]⟩] W fun e w' => e = .returned (txv 0) ∧ Below W.heap.size W w') := HP.out 0 (by decide)
  have P1 : Hid (∀ W, Calls Tryd.prog 13 #[.string ⟨#[48, 32, 48, 32, 51, 48, 32, 50, 32, 42]⟩] W fun e w' => e = .returned (txv 1) ∧ Below W.heap.size W w') := HP.out 1 (by decide)
  have P2 : Hid (∀ W, Calls Tryd.prog 13 #[.string ⟨#[48, 32, 48, 32, 49, 32, 49, 32, 42]⟩] W fun e w' => e = .returned (txv 2) ∧ Below W.heap.size W w') := HP.out 2 (by decide)
  have P3 : Hid (∀ W, Calls Tryd.prog 13 #[.string ⟨#[53, 32, 48, 32, 42, 32, 42, 32, 42]⟩] W fun e w' => e = .returned (txv 3) ∧ Below W.heap.size W w') := HP.out 3 (by decide)
  have P4 : Hid (∀ W, Calls Tryd.prog 13 #[.string ⟨#[48, 32, 42, 32, 42, 32, 42, 32, 42]⟩] W fun e w' => e = .returned (txv 4) ∧ Below W.heap.size W w') := HP.out 4 (by decide)
  have HW := Lib.hid hw
  generalize txv 0 = v0 at *
  generalize txv 1 = v1 at *
  generalize txv 2 = v2 at *
  generalize txv 3 = v3 at *
  generalize txv 4 = v4 at *
  clear HP hw
  go_enter Tryd.func5, Tryd.ntmps5
  go_wp2_with fail
  with_reducible refine (P0.out _).mono ?_
  rintro e w1 ⟨rfl, b1⟩
  have B1 := Lib.hid b1
  clear b1 P0
  go_wp2_with fail
  with_reducible refine (HA.out _ (HW.out.next B1.out)).mono ?_
  rintro e w2 ⟨rfl, b2⟩
  have B2 := Lib.hid (B1.out.trans (b2.mono B1.out.size))
  clear b2 B1 HA
  go_wp2_with fail
  with_reducible refine (P1.out _).mono ?_
  rintro e w3 ⟨rfl, b3⟩
  have B3 := Lib.hid (B2.out.trans (b3.mono B2.out.size))
  clear b3 B2 P1
  go_wp2_with fail
  with_reducible refine (HB.out _ (HW.out.next B3.out)).mono ?_
  rintro e w4 ⟨rfl, b4⟩
  have B4 := Lib.hid (B3.out.trans (b4.mono B3.out.size))
  clear b4 B3 HB
  go_wp2_with fail
  with_reducible refine (P2.out _).mono ?_
  rintro e w5 ⟨rfl, b5⟩
  have B5 := Lib.hid (B4.out.trans (b5.mono B4.out.size))
  clear b5 B4 P2
  go_wp2_with fail
  with_reducible refine (HC.out _ (HW.out.next B5.out)).mono ?_
  rintro e w6 ⟨rfl, b6⟩
  have B6 := Lib.hid (B5.out.trans (b6.mono B5.out.size))
  clear b6 B5 HC
  go_wp2_with fail
  with_reducible refine (P3.out _).mono ?_
  rintro e w7 ⟨rfl, b7⟩
  have B7 := Lib.hid (B6.out.trans (b7.mono B6.out.size))
  clear b7 B6 P3
  go_wp2_with fail
  with_reducible refine (HD.out _ (HW.out.next B7.out)).mono ?_
  rintro e w8 ⟨rfl, b8⟩
  have B8 := Lib.hid (B7.out.trans (b8.mono B7.out.size))
  clear b8 B7 HD
  go_wp2_with fail
  with_reducible refine (P4.out _).mono ?_
  rintro e w9 ⟨rfl, b9⟩
  have B9 := Lib.hid (B8.out.trans (b9.mono B8.out.size))
  clear b9 B8
  go_wp2_with fail
  with_reducible refine (HE.out _ (HW.out.next B9.out)).mono ?_
  rintro e w10 ⟨rfl, b10⟩
  have B10 := Lib.hid (B9.out.trans (b10.mono B9.out.size))
  clear b10 B9 HE
  go_wp2_with fail
  with_reducible refine (P4.out _).mono ?_
  rintro e w11 ⟨rfl, b11⟩
  have B11 := Lib.hid (B10.out.trans (b11.mono B10.out.size))
  clear b11 B10 P4
  go_wp2_with fail
  with_reducible refine (HF.out _ (HW.out.next B11.out)).mono ?_
  rintro e w12 ⟨rfl, b12⟩
  have B12 := Lib.hid (B11.out.trans (b12.mono B11.out.size))
  clear b12 B11 HF
  go_wp2_with fail
  go_ret
  exact ⟨rfl, B12.out⟩
end Go.Proofs.YtgcineaodfomeaaDoor
