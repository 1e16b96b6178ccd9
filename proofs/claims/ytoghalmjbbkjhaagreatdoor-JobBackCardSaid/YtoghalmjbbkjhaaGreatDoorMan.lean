/- Firings: going through days and minutes, forwards and backwards; the date of the next day, and of the last one. next.refusal: why a call refuses an expression and moments, by its contract. -/
import Derived.Test.YtoghalmjbbkjhaaGreatDoorMal
import Derived.Test.YtoghalmjbbkjhaaGreatDoorMaf
import Derived.Test.YtoghalmjbbkjhaaGreatDoorCSplitIn
namespace Go.Proofs.YtoghalmjbbkjhaaGreatDoor.Fire
open Go

/-- no firing from a on, ahead of c -/
def Clear (b : Nat → Nat) (s : Nat → Bool) (a c : Int) : Prop := ∀ u, a ≤ u → u < c → ¬ fires b s u
section
variable {b : Nat → Nat} {s : Nat → Bool} {a c n m t : Int}
theorem fires_in (h0 : 0 ≤ m) (h1 : m < 1440) : fires b s (n * 86400 + m * 60) ↔ (0 ≤ n ∧ n < 157054) ∧ dayOk b s n ∧ minOk b m = true := by
  unfold fires
  rw [show (n * 86400 + m * 60) / 86400 = n by omega, show (n * 86400 + m * 60) % 86400 / 60 = m by omega]
  exact ⟨fun ⟨q1, q2, _, q4, q5⟩ => ⟨⟨by omega, by omega⟩, q4, q5⟩, fun ⟨⟨q1, q2⟩, q4, q5⟩ => ⟨by omega, by omega, by omega, q4, q5⟩⟩
theorem clear_minute (h0 : 0 ≤ m) (h1 : m < 1440) (hm : minOk b m = false) (h : Clear b s a (n * 86400 + m * 60)) : Clear b s a (n * 86400 + (m + 1) * 60) := fun u q1 q2 hf => by
  rcases Int.lt_or_le u (n * 86400 + m * 60) with q | q
  · exact h u q1 q hf
  · have h60 := hf.2.2.1
    obtain rfl : u = n * 86400 + m * 60 := by omega
    rw [((fires_in h0 h1).1 hf).2.2] at hm
    cases hm
theorem clear_day (h0 : 0 ≤ m) (hd : ¬ dayOk b s n) (h : Clear b s a (n * 86400 + m * 60)) : Clear b s a ((n + 1) * 86400 + 0 * 60) := fun u q1 q2 hf => by
  rcases Int.lt_or_le u (n * 86400 + m * 60) with q | q
  · exact h u q1 q hf
  · have hday := hf.2.2.2.1
    rw [show u / 86400 = n by omega] at hday
    exact hd hday
theorem clear_full (h : Clear b s a (n * 86400 + 1440 * 60)) : Clear b s a ((n + 1) * 86400 + 0 * 60) := by
  rw [show (n + 1) * 86400 + 0 * 60 = n * 86400 + 1440 * 60 by omega]
  exact h
theorem clear_start : Clear b s (t + 1) (t / 60 * 60 + 60) := fun u q1 q2 hf => by
  have := hf.2.2.1
  omega
theorem clear_end (h : Clear b s (t + 1) (157054 * 86400 + m * 60)) (h0 : 0 ≤ m) : NoAfter b s t := fun u q hf => by
  have h1 := hf.2.1
  exact h u (by omega) (by omega) hf
theorem clear_found (h0 : 0 ≤ m) (h1 : m < 1440) (hn : 0 ≤ n ∧ n < 157054) (hd : dayOk b s n) (hm : minOk b m = true) (ht : t < n * 86400 + m * 60) (h : Clear b s (t + 1) (n * 86400 + m * 60)) : AfterIs b s t (n * 86400 + m * 60) :=
  ⟨(fires_in h0 h1).2 ⟨hn, hd, hm⟩, ht, fun u q1 q2 => h u (by omega) q2⟩
/-- the same backwards: no firing behind c, up to t -/
def ClearB (b : Nat → Nat) (s : Nat → Bool) (c t : Int) : Prop := ∀ u, c < u → u ≤ t → ¬ fires b s u
theorem clearB_minute (h0 : 0 ≤ m) (h1 : m < 1440) (hm : minOk b m = false) (h : ClearB b s (n * 86400 + m * 60) t) : ClearB b s (n * 86400 + (m - 1) * 60) t := fun u q1 q2 hf => by
  rcases Int.lt_or_le (n * 86400 + m * 60) u with q | q
  · exact h u q q2 hf
  · have h60 := hf.2.2.1
    obtain rfl : u = n * 86400 + m * 60 := by omega
    rw [((fires_in h0 h1).1 hf).2.2] at hm
    cases hm
theorem clearB_day (h1 : m < 1440) (hd : ¬ dayOk b s n) (h : ClearB b s (n * 86400 + m * 60) t) : ClearB b s ((n - 1) * 86400 + 1439 * 60) t := fun u q1 q2 hf => by
  rcases Int.lt_or_le (n * 86400 + m * 60) u with q | q
  · exact h u q q2 hf
  · have hday := hf.2.2.2.1
    have h60 := hf.2.2.1
    rw [show u / 86400 = n by omega] at hday
    exact hd hday
theorem clearB_full (h : ClearB b s (n * 86400 + (-1) * 60) t) : ClearB b s ((n - 1) * 86400 + 1439 * 60) t := by
  rw [show (n - 1) * 86400 + 1439 * 60 = n * 86400 + (-1) * 60 by omega]
  exact h
theorem clearB_start : ClearB b s (t / 86400 * 86400 + t % 86400 / 60 * 60) t := fun u q1 q2 hf => by
  have := hf.2.2.1
  omega
theorem clearB_end (h : ClearB b s ((-1) * 86400 + 1439 * 60) t) : NoLast b s t := fun u q hf => h u (by have := hf.1; omega) q hf
theorem clearB_found (h0 : 0 ≤ m) (h1 : m < 1440) (hn : 0 ≤ n ∧ n < 157054) (hd : dayOk b s n) (hm : minOk b m = true) (ht : n * 86400 + m * 60 ≤ t) (h : ClearB b s (n * 86400 + m * 60) t) : LastIs b s t (n * 86400 + m * 60) :=
  ⟨(fires_in h0 h1).2 ⟨hn, hd, hm⟩, ht, fun u q1 q2 => h u q1 q2⟩
end

/-! the next date, and the last one -/
theorem dbm_succ (y : Int) (k : Nat) : Cal.dbm y (k + 1) = Cal.dbm y k + Cal.long y ((k : Int) + 1) := rfl
theorem dby_succ (k : Nat) : Cal.dby (k + 1) = Cal.dby k + Cal.ylen (1970 + (k : Int)) := rfl
def next (y m d : Int) : Int × Int × Int := if d < Cal.long y m then (y, m, d + 1) else if m < 12 then (y, m + 1, 1) else (y + 1, 1, 1)
def prev (y m d : Int) : Int × Int × Int := if 1 < d then (y, m, d - 1) else if 1 < m then (y, m - 1, Cal.long y (m - 1)) else (y - 1, 12, 31)
theorem next_ok {y m d : Int} (h : Cal.may y m d) (hn : Cal.num y m d + 1 < 157054) : Cal.may (next y m d).1 (next y m d).2.1 (next y m d).2.2 ∧ Cal.num (next y m d).1 (next y m d).2.1 (next y m d).2.2 = Cal.num y m d + 1 := by
  obtain ⟨h1, h2, h3, h4⟩ := id h
  have hm := Cal.may_month h
  unfold next
  split
  · rename_i hd
    exact ⟨⟨h1, h2, by simp only; omega, by simp only; omega⟩, by unfold Cal.num; simp only; omega⟩
  · rename_i hd
    have hde : d = Cal.long y m := by omega
    split
    · rename_i hm12
      have hl := (Cal.long_pos (y := y) (m := m + 1) ⟨by omega, by omega⟩).1
      refine ⟨⟨h1, h2, by simp only; omega, by simp only; omega⟩, ?_⟩
      unfold Cal.num
      simp only
      rw [show (m + 1 - 1).toNat = (m - 1).toNat + 1 by omega, dbm_succ, show (((m - 1).toNat : Nat) : Int) + 1 = m by omega, hde]
      omega
    · rename_i hm12
      obtain rfl : m = 12 := by omega
      have e1 : Cal.num y 12 d = Cal.dby (y - 1970).toNat + Cal.ylen y - 1 := by
        unfold Cal.num
        rw [show ((12 : Int) - 1).toNat = 11 from rfl, ← Cal.dbm_12 y, show (12 : Nat) = 11 + 1 from rfl, dbm_succ, hde]
        show _ + Cal.dbm y 11 + (Cal.long y 12 - 1) = _ + (Cal.dbm y 11 + Cal.long y 12) - 1
        omega
      have e2 : Cal.num (y + 1) 1 1 = Cal.num y 12 d + 1 := by
        rw [e1]
        unfold Cal.num
        rw [show (y + 1 - 1970).toNat = (y - 1970).toNat + 1 by omega, dby_succ, show 1970 + (((y - 1970).toNat : Nat) : Int) = y by omega]
        show _ + Cal.dbm (y + 1) 0 + ((1 : Int) - 1) = _
        rw [show Cal.dbm (y + 1) 0 = 0 from rfl]
        omega
      refine ⟨⟨by simp only; omega, ?_, by simp only; omega, ?_⟩, e2⟩
      · simp only
        rcases Int.lt_or_le y 2399 with q | q
        · omega
        · obtain rfl : y = 2399 := by omega
          rw [e1] at hn
          have : Cal.dby (2399 - 1970 : Int).toNat + Cal.ylen 2399 = 157054 := Cal.dby_430
          omega
      · exact (Cal.long_pos (y := y + 1) (m := 1) ⟨by decide, by decide⟩).1 |> fun q => by simp only; omega
theorem prev_ok {y m d : Int} (h : Cal.may y m d) (hn : 0 ≤ Cal.num y m d - 1) : Cal.may (prev y m d).1 (prev y m d).2.1 (prev y m d).2.2 ∧ Cal.num (prev y m d).1 (prev y m d).2.1 (prev y m d).2.2 = Cal.num y m d - 1 := by
  obtain ⟨h1, h2, h3, h4⟩ := id h
  have hm := Cal.may_month h
  unfold prev
  split
  · rename_i hd
    exact ⟨⟨h1, h2, by simp only; omega, by simp only; omega⟩, by unfold Cal.num; simp only; omega⟩
  · rename_i hd
    obtain rfl : d = 1 := by omega
    split
    · rename_i hm1
      have hl := (Cal.long_pos (y := y) (m := m - 1) ⟨by omega, by omega⟩).1
      refine ⟨⟨h1, h2, by simp only; omega, by simp only; omega⟩, ?_⟩
      unfold Cal.num
      simp only
      rw [show (m - 1).toNat = (m - 1 - 1).toNat + 1 by omega, dbm_succ, show (((m - 1 - 1).toNat : Nat) : Int) + 1 = m - 1 by omega]
      omega
    · rename_i hm1
      obtain rfl : m = 1 := by omega
      have hy : 1970 < y := by
        rcases Int.lt_or_le 1970 y with q | q
        · exact q
        · obtain rfl : y = 1970 := by omega
          have : Cal.num 1970 1 1 = 0 := by decide
          omega
      have hl : Cal.long (y - 1) 12 = 31 := by unfold Cal.long; simp
      refine ⟨⟨by simp only; omega, by simp only; omega, by simp only; omega, by simp only; omega⟩, ?_⟩
      unfold Cal.num
      simp only
      rw [show (y - 1970).toNat = (y - 1 - 1970).toNat + 1 by omega, dby_succ, show 1970 + (((y - 1 - 1970).toNat : Nat) : Int) = y - 1 by omega, ← Cal.dbm_12 (y - 1), show (12 : Nat) = 11 + 1 from rfl, dbm_succ, show ((12 : Int) - 1).toNat = 11 from rfl, show ((1 : Int) - 1).toNat = 0 from rfl]
      show _ + Cal.dbm (y - 1) 11 + ((31 : Int) - 1) = _ + (Cal.dbm (y - 1) 11 + Cal.long (y - 1) 12) + 0 + ((1 : Int) - 1) - 1
      omega
theorem week_next (n : Int) : (Cal.week n + 1) % 7 = Cal.week (n + 1) := by unfold Cal.week; omega
theorem week_prev (n : Int) : (Cal.week n + 6) % 7 = Cal.week (n - 1) := by unfold Cal.week; omega
end Go.Proofs.YtoghalmjbbkjhaaGreatDoor.Fire

namespace Go.Proofs.YtoghalmjbbkjhaaGreatDoor
open Go.RowKit

def farOut (t : Int) : Bool := decide (t < 0) || decide (13569465600 ≤ t)
/-- what refusal tells -/
def refusedOf (m : Bool) (ts : List Int) : Int := if m = false then 2 else if ts.any farOut = true then 50 else 0
theorem refused_bad (ts : List Int) : refusedOf false ts = 2 := rfl
theorem refused_out {ts : List Int} {i : Nat} {t : Int} (h : ts[i]? = some t) (hf : farOut t = true) : refusedOf true ts = 50 := by
  unfold refusedOf
  rw [if_neg (by decide), if_pos (List.any_eq_true.2 ⟨t, List.mem_of_getElem? h, hf⟩)]
theorem refused_ok {ts : List Int} (h : ∀ (i : Nat) t, ts[i]? = some t → farOut t = false) : refusedOf true ts = 0 := by
  unfold refusedOf
  rw [if_neg (by decide), if_neg]
  intro hq
  obtain ⟨t, ht, hf⟩ := List.any_eq_true.1 hq
  obtain ⟨i, hi⟩ := List.mem_iff_getElem?.1 ht
  rw [h i t hi] at hf
  cases hf
theorem floor_any (t : Int) (w : World) : Calls Tryz.prog 66 #[.int .i64 t] w fun e w' => ∃ v, e = .returned (.tuple #[.int .i64 v, .int .i64 (bif farOut t then 50 else 0)]) ∧ Below w.heap.size w w' := by
  by_cases h : 0 ≤ t ∧ t < 13569465600
  · have hf : farOut t = false := by unfold farOut; simp; omega
    rw [hf]
    exact (Civ.floor_in t w h.1 h.2).mono fun e w' ⟨h1, h2⟩ => ⟨_, h1, h2⟩
  · have hf : farOut t = true := by unfold farOut; simp; omega
    rw [hf]
    exact (Civ.floor_out t w (by omega)).mono fun e w' ⟨h1, h2⟩ => ⟨_, h1, h2⟩
theorem may_dec (b : Nat → Nat) : Cron.may b = true ∨ Cron.may b = false := by cases Cron.may b <;> simp

set_option maxRecDepth 100000 in
set_option maxHeartbeats 4000000 in
theorem refusal_any (b : Nat → Nat) (s : Nat → Bool) (hb : ∀ k, k < 5 → b k < 2 ^ 64) (g cap : Nat) (ts : List Int) (hl : ts.length ≤ 100) (w : World) (hw : TabsOn w) (hg : g < w.heap.size)
    (hc : ∀ (i : Nat) t, ts[i]? = some t → w.cell? ⟨g, i, none⟩ = some (.int .i64 t)) :
    Calls Tryz.prog 39 #[xval b s, .slice (some ⟨g, 0, none⟩) ts.length cap] w fun e w' => e = .returned (.int .i64 (refusedOf (Cron.may b) ts)) ∧ Below w.heap.size w w' := by
  have o := OwnX.new w b s
  have O := Lib.hid o
  obtain ⟨c0, c1, c2, c3, c4, c5, c6, c7, c8, c9⟩ := xobj_cells o.row
  have HM := Lib.hid (mayX_any b s hb _ (hw.next o.bel))
  have HF := Lib.hid floor_any
  have HC := Lib.hid hc
  have HK := Lib.hid (@refused_ok ts)
  have HO := Lib.hid (fun (i : Nat) (t : Int) h hf => @refused_out ts i t h hf)
  clear o hw hc hb
  unfold xval xcells at *
  generalize hmv : Cron.may b = mv at *
  have HMV := Lib.hid hmv
  clear hmv
  obtain ⟨R, hR⟩ : ∃ R, R = refusedOf mv ts := ⟨_, rfl⟩
  rw [← hR]
  have HR := Lib.hid hR
  clear hR
  go_enter Tryz.func39, Tryz.ntmps39
  go_wp2_with fail
  with_reducible refine HM.out.mono ?_
  rintro e w1 ⟨rfl, hb1⟩
  have O1 := Lib.hid (O.out.below hb1)
  have bel1 := Lib.hid O1.out.bel
  clear c0 c1 c2 c3 c4 c5 c6 c7 c8 c9 hb1 O HM
  cases mv
  · go_wp2_with fail
    go_ret
    exact ⟨by rw [HR.out]; rfl, bel1.out⟩
  · go_wp2_with fail
    go_loopg [14] ts.length (fun gh t14 wr => Below w.heap.size w wr ∧ ∃ i : Nat, i + gh = ts.length ∧ t14 = .int .i64 i ∧ ∀ (j : Nat) t, j < i → ts[j]? = some t → farOut t = false)
    case atStart => exact ⟨bel1.out, 0, by omega, rfl, fun j t hj _ => absurd hj (by omega)⟩
    case round =>
      obtain ⟨hbx, i, hig, rfl, hno⟩ := hrel
      have HN := Lib.hid hno
      have HB := Lib.hid hbx
      clear hno
      cases gk with
      | zero =>
        obtain rfl : i = ts.length := by omega
        clear hbx
        go_wp2_with fail
        go_ret
        exact ⟨by rw [HR.out, HK.out fun j t hj => HN.out j t (List.getElem?_eq_some_iff.1 hj).1 hj]; rfl, HB.out⟩
      | succ gh =>
        have hi : i < ts.length := by omega
        obtain ⟨t, ht⟩ : ∃ t, ts[i]? = some t := ⟨_, List.getElem?_eq_getElem hi⟩
        have hcell := (hbx.cell (p := ⟨g, i, none⟩) hg).trans (HC.out i t ht)
        have HT := Lib.hid ht
        clear hbx ht
        go_wp2_with fail
        with_reducible refine (HF.out t _).mono ?_
        rintro e w2 ⟨v, rfl, hb2⟩
        have HB2 := Lib.hid (HB.out.trans (hb2.mono HB.out.size))
        clear hb2 hcell
        cases hft : farOut t
        · have HFT := Lib.hid hft
          clear hft
          simp only [cond_false]
          go_wp2_with fail
          go_roundg gh
          case measure => omega
          case rel => exact ⟨HB2.out, i + 1, by omega, by go_num, fun j u hj hu => by
            by_cases e : j = i
            · subst e
              rw [HT.out] at hu
              obtain rfl := Option.some.inj hu
              exact HFT.out
            · exact HN.out j u (by omega) hu⟩
        · have HFT := Lib.hid hft
          clear hft
          simp only [cond_true]
          go_wp2_with fail
          go_ret
          exact ⟨by rw [HR.out, HO.out _ _ HT.out HFT.out]; rfl, HB2.out⟩
end Go.Proofs.YtoghalmjbbkjhaaGreatDoor
