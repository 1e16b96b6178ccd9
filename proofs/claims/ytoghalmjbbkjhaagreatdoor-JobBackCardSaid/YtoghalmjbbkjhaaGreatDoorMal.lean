/- Firings, as mathematics: which moments they are; the first one behind a moment, the last one up to it. stamp.Split, Add, Floor and the reference's, by their contracts. -/
import Derived.Test.YtoghalmjbbkjhaaGreatDoorMac
import Derived.BigQuiet
import Derived.Deep.RegionHeld
namespace Go.Proofs.YtoghalmjbbkjhaaGreatDoor.Fire
open Go

/-- whether a day fits: its date's month and day, its day of the week -/
def dayOk (b : Nat → Nat) (s : Nat → Bool) (n : Int) : Prop := ∃ y m d, Cal.may y m d ∧ Cal.num y m d = n ∧ Cron.days b s m d (Cal.week n) = true
/-- whether a minute of a day fits -/
def minOk (b : Nat → Nat) (q : Int) : Bool := Fld.has (b 0) (q % 60) && Fld.has (b 1) (q / 60)
/-- a firing -/
def fires (b : Nat → Nat) (s : Nat → Bool) (t : Int) : Prop := 0 ≤ t ∧ t < 13569465600 ∧ t % 60 = 0 ∧ dayOk b s (t / 86400) ∧ minOk b (t % 86400 / 60) = true
theorem dayOk_at {b : Nat → Nat} {s : Nat → Bool} {y m d : Int} (h : Cal.may y m d) : dayOk b s (Cal.num y m d) ↔ Cron.days b s m d (Cal.week (Cal.num y m d)) = true := by
  constructor
  · rintro ⟨y', m', d', h', he, hd⟩
    obtain ⟨rfl, rfl, rfl⟩ := Cal.num_inj h' h he
    exact hd
  · exact fun hd => ⟨y, m, d, h, rfl, hd⟩
/-- a clock whose second is 0 and that fits shows a firing -/
theorem fires_at {b : Nat → Nat} {s : Nat → Bool} {y m d h i x k : Int} (hb : Cron.may b = true) (hc : Stm.may y m d h i x k) : fires b s (Stm.num y m d h i x) ↔ x = 0 ∧ Cron.fits b s y m d h i x k = true := by
  have hr := Stm.num_range hc
  obtain ⟨h1, h2, h3, h4, h5, h6, h7, h8⟩ := id hc
  have hn := Cal.num_range h1
  have e0 : Stm.num y m d h i x = Cal.num y m d * 86400 + h * 3600 + i * 60 + x := rfl
  have e1 : Stm.num y m d h i x / 86400 = Cal.num y m d := by rw [e0]; omega
  have e2 : Stm.num y m d h i x % 86400 / 60 = h * 60 + i := by rw [e0]; omega
  have e3 : Stm.num y m d h i x % 60 = x := by rw [e0]; omega
  have e4 : minOk b (h * 60 + i) = (Fld.has (b 0) i && Fld.has (b 1) h) := by
    unfold minOk
    rw [show (h * 60 + i) % 60 = i by omega, show (h * 60 + i) / 60 = h by omega]
  unfold fires Cron.fits Cron.dayFits
  rw [e1, e2, e3, e4, dayOk_at h1, ← h8, hb, decide_eq_true hc]
  simp only [Bool.true_and, Bool.and_eq_true]
  exact ⟨fun ⟨_, _, q1, q2, q3⟩ => ⟨q1, q2, q3⟩, fun ⟨q1, q2, q3⟩ => ⟨hr.1, hr.2, q1, q2, q3⟩⟩

/-- the first firing behind a moment -/
def AfterIs (b : Nat → Nat) (s : Nat → Bool) (t r : Int) : Prop := fires b s r ∧ t < r ∧ ∀ u, t < u → u < r → ¬ fires b s u
def NoAfter (b : Nat → Nat) (s : Nat → Bool) (t : Int) : Prop := ∀ u, t < u → ¬ fires b s u
/-- the last firing up to a moment -/
def LastIs (b : Nat → Nat) (s : Nat → Bool) (t r : Int) : Prop := fires b s r ∧ r ≤ t ∧ ∀ u, r < u → u ≤ t → ¬ fires b s u
def NoLast (b : Nat → Nat) (s : Nat → Bool) (t : Int) : Prop := ∀ u, u ≤ t → ¬ fires b s u
section
variable {b : Nat → Nat} {s : Nat → Bool} {t r r' m : Int}
theorem after_one (h : AfterIs b s t r) (h' : AfterIs b s t r') : r = r' := by
  obtain ⟨h1, h2, h3⟩ := h
  obtain ⟨h1', h2', h3'⟩ := h'
  rcases Int.lt_trichotomy r r' with q | q | q
  · exact absurd h1 (h3' r h2 q)
  · exact q
  · exact absurd h1' (h3 r' h2' q)
theorem last_one (h : LastIs b s t r) (h' : LastIs b s t r') : r = r' := by
  obtain ⟨h1, h2, h3⟩ := h
  obtain ⟨h1', h2', h3'⟩ := h'
  rcases Int.lt_trichotomy r r' with q | q | q
  · exact absurd h1' (h3 r' q h2')
  · exact q
  · exact absurd h1 (h3' r q h2)
theorem after_not (h : AfterIs b s t r) (h' : NoAfter b s t) : False := h' r h.2.1 h.1
theorem last_not (h : LastIs b s t r) (h' : NoLast b s t) : False := h' r h.2.1 h.1
theorem last_self (h : fires b s t) : LastIs b s t t := ⟨h, Int.le_refl _, fun u h1 h2 => absurd h1 (by omega)⟩
/-- between a moment and After of it: the same After, the same Last -/
theorem after_mid (h : AfterIs b s t r) (h1 : t ≤ m) (h2 : m < r) : AfterIs b s m r := ⟨h.1, h2, fun u q1 q2 => h.2.2 u (by omega) q2⟩
theorem mid_not (h : AfterIs b s t r) (h1 : t < m) (h2 : m < r) : ¬ fires b s m := h.2.2 m h1 h2
theorem last_mid (ha : AfterIs b s t r) (h : LastIs b s t r') (h1 : t ≤ m) (h2 : m < r) : LastIs b s m r' :=
  ⟨h.1, by have := h.2.1; omega, fun u q1 q2 => by
    rcases Int.lt_or_le t u with q | q
    · exact ha.2.2 u q (by omega)
    · exact h.2.2 u q1 q⟩
theorem noLast_mid (ha : AfterIs b s t r) (h : NoLast b s t) (h2 : m < r) : NoLast b s m := fun u q => by
  rcases Int.lt_or_le t u with q' | q'
  · exact ha.2.2 u q' (by omega)
  · exact h u q'
theorem last_end (ha : NoAfter b s t) (h : LastIs b s t r) (h1 : t ≤ m) : LastIs b s m r :=
  ⟨h.1, by have := h.2.1; omega, fun u q1 q2 => by
    rcases Int.lt_or_le t u with q | q
    · exact ha u q
    · exact h.2.2 u q1 q⟩
theorem noLast_end (ha : NoAfter b s t) (h : NoLast b s t) : NoLast b s m := fun u _ => by
  rcases Int.lt_or_le t u with q' | q'
  · exact ha u q'
  · exact h u q'
end

/-! what After and Last tell: the moment, and the error -/
def told (r e : Int) : Value := .tuple #[.int .i64 r, .int .i64 e]
/-- After's answer: (its moment, its error) -/
def AfterT (b : Nat → Nat) (s : Nat → Bool) (t : Int) (p : Int × Int) : Prop :=
  if Cron.may b = false then p = (0, 2) else if t < 0 ∨ 13569465600 ≤ t then p = (0, 50) else (∃ r, p = (r, 0) ∧ AfterIs b s t r) ∨ (p = (0, 5) ∧ NoAfter b s t)
def LastT (b : Nat → Nat) (s : Nat → Bool) (t : Int) (p : Int × Int) : Prop :=
  if Cron.may b = false then p = (0, 2) else if t < 0 ∨ 13569465600 ≤ t then p = (0, 50) else (∃ r, p = (r, 0) ∧ LastIs b s t r) ∨ (p = (0, 5) ∧ NoLast b s t)
theorem afterT_one {b : Nat → Nat} {s : Nat → Bool} {t : Int} {p q : Int × Int} (h : AfterT b s t p) (h' : AfterT b s t q) : p = q := by
  unfold AfterT at h h'
  split at h
  · rename_i hm
    rw [if_pos hm] at h'
    rw [h, h']
  · rename_i hm
    rw [if_neg hm] at h'
    split at h
    · rename_i ht
      rw [if_pos ht] at h'
      rw [h, h']
    · rename_i ht
      rw [if_neg ht] at h'
      rcases h with ⟨r, rfl, ha⟩ | ⟨rfl, ha⟩ <;> rcases h' with ⟨r', rfl, ha'⟩ | ⟨rfl, ha'⟩
      · rw [after_one ha ha']
      · exact (after_not ha ha').elim
      · exact (after_not ha' ha).elim
      · rfl
theorem lastT_one {b : Nat → Nat} {s : Nat → Bool} {t : Int} {p q : Int × Int} (h : LastT b s t p) (h' : LastT b s t q) : p = q := by
  unfold LastT at h h'
  split at h
  · rename_i hm
    rw [if_pos hm] at h'
    rw [h, h']
  · rename_i hm
    rw [if_neg hm] at h'
    split at h
    · rename_i ht
      rw [if_pos ht] at h'
      rw [h, h']
    · rename_i ht
      rw [if_neg ht] at h'
      rcases h with ⟨r, rfl, ha⟩ | ⟨rfl, ha⟩ <;> rcases h' with ⟨r', rfl, ha'⟩ | ⟨rfl, ha'⟩
      · rw [last_one ha ha']
      · exact (last_not ha ha').elim
      · exact (last_not ha' ha).elim
      · rfl
end Go.Proofs.YtoghalmjbbkjhaaGreatDoor.Fire

namespace Go.Proofs.YtoghalmjbbkjhaaGreatDoor.Civ
open Go.RowKit

theorem moment_in (t : Int) (w : World) (h0 : 0 ≤ t) (h1 : t < 13569465600) :
    Calls Tryz.prog 34 #[.int .i64 t] w fun e w' => e = .returned (.bool true) ∧ w' = w := by
  have g0 : decide (0 ≤ t) = true := by simp; omega
  have g1 : decide (t < 13569465600) = true := by simp; omega
  go_enter Tryz.func34, Tryz.ntmps34
  go_wp2_with fail
  go_ret
  exact ⟨rfl, rfl⟩
theorem moment_out (t : Int) (w : World) (h : t < 0 ∨ 13569465600 ≤ t) :
    Calls Tryz.prog 34 #[.int .i64 t] w fun e w' => e = .returned (.bool false) ∧ w' = w := by
  by_cases h0 : 0 ≤ t
  · have g0 : decide (0 ≤ t) = true := by simp; omega
    have g1 : decide (t < 13569465600) = false := by simp; omega
    go_enter Tryz.func34, Tryz.ntmps34
    go_wp2_with fail
    go_ret
    exact ⟨rfl, rfl⟩
  · have g0 : decide (0 ≤ t) = false := by simp; omega
    go_enter Tryz.func34, Tryz.ntmps34
    go_wp2_with fail
    go_ret
    exact ⟨rfl, rfl⟩

set_option maxRecDepth 100000 in
set_option maxHeartbeats 1000000 in
theorem split_out (t : Int) (w : World) (h : t < 0 ∨ 13569465600 ≤ t) :
    Calls Tryz.prog 15 #[.int .i64 t] w fun e w' => e = .returned (.tuple #[.agg #[.int .i64 0, .int .i64 0, .int .i64 0, .int .i64 0, .int .i64 0, .int .i64 0, .int .i64 0], .int .i64 50]) ∧ Below w.heap.size w w' := by
  have hb := (Own.new w 0 0 0 0 0 0 0).bel
  have HMO := Lib.hid (fun w => moment_out t w h)
  clear h
  go_enter Tryz.func15, Tryz.ntmps15
  go_wp2_with fail
  with_reducible refine (HMO.out _).mono ?_
  rintro e w1 ⟨rfl, rfl⟩
  go_wp2_with fail
  refine bodyPost_ret (v := .tuple #[.agg #[.int .i64 0, .int .i64 0, .int .i64 0, .int .i64 0, .int .i64 0, .int .i64 0, .int .i64 0], .int .i64 50]) (by simp [results, Tryz.results15, go_sem]) rfl ⟨rfl, hb⟩

set_option maxRecDepth 100000 in
set_option maxHeartbeats 1000000 in
theorem refSplit_out (t : Int) (w : World) (h : t < 0 ∨ 13569465600 ≤ t) :
    Calls Tryz.prog 45 #[.int .i64 t] w fun e w' => e = .returned (.tuple #[.agg #[.int .i64 0, .int .i64 0, .int .i64 0, .int .i64 0, .int .i64 0, .int .i64 0, .int .i64 0], .int .i64 50]) ∧ Below w.heap.size w w' := by
  have hb := (Own.new w 0 0 0 0 0 0 0).bel
  by_cases h0 : t < 0
  · go_enter Tryz.func45, Tryz.ntmps45
    go_wp2_with fail
    refine bodyPost_ret (v := .tuple #[.agg #[.int .i64 0, .int .i64 0, .int .i64 0, .int .i64 0, .int .i64 0, .int .i64 0, .int .i64 0], .int .i64 50]) (by simp [results, Tryz.results45, go_sem]) rfl ⟨rfl, hb⟩
  · have h1 : 13569465600 ≤ t := by omega
    clear h
    go_enter Tryz.func45, Tryz.ntmps45
    go_wp2_with fail
    refine bodyPost_ret (v := .tuple #[.agg #[.int .i64 0, .int .i64 0, .int .i64 0, .int .i64 0, .int .i64 0, .int .i64 0, .int .i64 0], .int .i64 50]) (by simp [results, Tryz.results45, go_sem]) rfl ⟨rfl, hb⟩

/-- a moment later, as it is told -/
def addOf (t n : Int) : Value := if 0 ≤ t ∧ t < 13569465600 ∧ 0 ≤ t + n ∧ t + n < 13569465600 then .tuple #[.int .i64 (t + n), .int .i64 0] else .tuple #[.int .i64 0, .int .i64 50]
theorem addOf_in {t n : Int} (h : 0 ≤ t ∧ t < 13569465600 ∧ 0 ≤ t + n ∧ t + n < 13569465600) : addOf t n = .tuple #[.int .i64 (t + n), .int .i64 0] := if_pos h
theorem addOf_out {t n : Int} (h : ¬ (0 ≤ t ∧ t < 13569465600 ∧ 0 ≤ t + n ∧ t + n < 13569465600)) : addOf t n = .tuple #[.int .i64 0, .int .i64 50] := if_neg h

theorem floor_in (t : Int) (w : World) (h0 : 0 ≤ t) (h1 : t < 13569465600) :
    Calls Tryz.prog 66 #[.int .i64 t] w fun e w' => e = .returned (.tuple #[.int .i64 (t - t % 60), .int .i64 0]) ∧ Below w.heap.size w w' := by
  have HMO := Lib.hid (fun w => moment_in t w h0 h1)
  go_enter Tryz.func66, Tryz.ntmps66
  go_wp2_with fail
  with_reducible refine (HMO.out _).mono ?_
  rintro e w1 ⟨rfl, rfl⟩
  go_wp2_with fail
  go_ret2
  exact ⟨rfl, Below.refl _ _⟩
theorem floor_out (t : Int) (w : World) (h : t < 0 ∨ 13569465600 ≤ t) :
    Calls Tryz.prog 66 #[.int .i64 t] w fun e w' => e = .returned (.tuple #[.int .i64 0, .int .i64 50]) ∧ Below w.heap.size w w' := by
  have HMO := Lib.hid (fun w => moment_out t w h)
  clear h
  go_enter Tryz.func66, Tryz.ntmps66
  go_wp2_with fail
  with_reducible refine (HMO.out _).mono ?_
  rintro e w1 ⟨rfl, rfl⟩
  go_wp2_with fail
  go_ret2
  exact ⟨rfl, Below.refl _ _⟩
end Go.Proofs.YtoghalmjbbkjhaaGreatDoor.Civ
