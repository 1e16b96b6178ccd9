/- The firings of a day's expression: plain mathematics. slices.Equal at []uint64, and the law's own comparison of moments, by their contracts. Bytes that are read at any address, as text. -/
import Derived.Test.YtoghalmjbbkjhaaGreatDoorMap
import Derived.Test.YtoghalmjbbkjhaaGreatDoorMaj
import Derived.Test.YtoghalmjbbkjhaaGreatDoorMag
import Derived.Test.YtoghalmjbbkjhaaGreatDoorMak
namespace Go.Proofs.YtoghalmjbbkjhaaGreatDoor.Job
open Go.RowKit

def lDay : List UInt8 := [64, 100, 97, 105, 108, 121]
theorem day_err : Cron.pErr lDay = 0 ∧ Cron.pErr [120] = 70 := by decide +kernel
theorem day_bits : Cron.pB lDay 0 = 2 ^ 0 ∧ Cron.pB lDay 1 = 2 ^ 0 ∧ Cron.pS lDay 4 = true := by decide +kernel
theorem day_all : (∀ d : Fin 32, 1 ≤ d.val → Fld.has (Cron.pB lDay 2) (d.val : Int) = true) ∧ (∀ m : Fin 13, 1 ≤ m.val → Fld.has (Cron.pB lDay 3) (m.val : Int) = true) ∧ (∀ k : Fin 7, Fld.has (Cron.pB lDay 4) (k.val : Int) = true) := by decide +kernel
theorem has_pow {k : Nat} {n : Int} (h : Fld.has (2 ^ k) n = true) : n = k := by
  unfold Fld.has at h
  simp only [Bool.and_eq_true, decide_eq_true_eq, Nat.testBit_two_pow] at h
  omega
theorem day_is {u : Int} : Fire.fires (Cron.pB lDay) (Cron.pS lDay) u ↔ 0 ≤ u ∧ u < 13569465600 ∧ u % 86400 = 0 := by
  obtain ⟨b0, b1, s4⟩ := day_bits
  constructor
  · rintro ⟨h1, h2, h3, _, h5⟩
    unfold Fire.minOk at h5
    rw [Bool.and_eq_true, b0, b1] at h5
    have := has_pow h5.1
    have := has_pow h5.2
    refine ⟨h1, h2, ?_⟩
    omega
  · rintro ⟨h1, h2, h3⟩
    obtain ⟨a2, a3, a4⟩ := day_all
    refine ⟨h1, h2, by omega, ?_, ?_⟩
    · obtain ⟨y, m, d, hm, hn⟩ := Cal.num_onto (u / 86400) (by omega) (by omega)
      refine ⟨y, m, d, hm, hn, ?_⟩
      have hmo := Cal.may_month hm
      have hlg := Cal.long_pos (y := y) hmo
      have hd := hm.2.2
      have hk : 0 ≤ Cal.week (u / 86400) ∧ Cal.week (u / 86400) ≤ 6 := by unfold Cal.week; omega
      unfold Cron.days
      rw [if_pos (.inr s4)]
      have e1 := a3 ⟨m.toNat, by omega⟩ (by show 1 ≤ m.toNat; omega)
      have e2 := a2 ⟨d.toNat, by omega⟩ (by show 1 ≤ d.toNat; omega)
      have e3 := a4 ⟨(Cal.week (u / 86400)).toNat, by omega⟩
      rw [show ((m.toNat : Nat) : Int) = m by omega] at e1
      rw [show ((d.toNat : Nat) : Int) = d by omega] at e2
      rw [show (((Cal.week (u / 86400)).toNat : Nat) : Int) = Cal.week (u / 86400) by omega] at e3
      rw [e1, e2, e3]
      rfl
    · unfold Fire.minOk
      rw [show u % 86400 / 60 % 60 = 0 by omega, show u % 86400 / 60 / 60 = 0 by omega, b0, b1]
      rfl
theorem day_last {t r : Int} (h0 : 0 ≤ r) (h1 : r < 13569465600) (h2 : r % 86400 = 0) (h3 : r ≤ t) (h4 : t < r + 86400) : Fire.LastIs (Cron.pB lDay) (Cron.pS lDay) t r :=
  ⟨day_is.2 ⟨h0, h1, h2⟩, h3, fun u q1 q2 hf => by obtain ⟨_, _, h⟩ := day_is.1 hf; omega⟩
theorem day_R : R (Cron.pB lDay) (Cron.pS lDay) (-1) 172800 = [172800, 86400, 0] := by
  rw [R_last (day_last (r := 172800) (by omega) (by omega) (by omega) (by omega) (by omega)) (by omega), R_last (day_last (r := 86400) (by omega) (by omega) (by omega) (by omega) (by omega)) (by omega),
    R_last (day_last (r := 0) (by omega) (by omega) (by omega) (by omega) (by omega)) (by omega), R_none (by omega)]
theorem day_nine : told14 (Cron.pB lDay) (Cron.pS lDay) (-1) 172800 9 = [0, 86400, 172800] := by unfold told14; rw [day_R]; rfl
theorem day_two : told14 (Cron.pB lDay) (Cron.pS lDay) (-1) 172800 2 = [86400, 172800] := by unfold told14; rw [day_R]; rfl
/-- an expression that is parsed may be -/
theorem p_may14 {l : List UInt8} (h : Cron.pErr l = 0) : Cron.may (Cron.pB l) = true := Cron.p_may h
end Go.Proofs.YtoghalmjbbkjhaaGreatDoor.Job

namespace Go.Proofs.YtoghalmjbbkjhaaGreatDoor.Job
open Go.RowKit

set_option maxRecDepth 100000 in
set_option maxHeartbeats 1000000 in
theorem equal_any {w : World} {a b : Option Addr} {xs ys : List Int} {c d : Nat} (hx : Vals w a (xs.map uv)) (hy : Vals w b (ys.map uv)) (hlx : xs.length ≤ 1000000) :
    Calls Tryz.prog 30 #[.slice a xs.length c, .slice b ys.length d] w fun e w' => e = .returned (.bool (decide (xs = ys))) ∧ Drew w w' := by
  obtain ⟨g, q, ha, hc⟩ := hx
  obtain ⟨g2, q2, ha2, hc2⟩ := hy
  have HA := Lib.hid ha
  have HC := Lib.hid hc
  have HA2 := Lib.hid ha2
  have HC2 := Lib.hid hc2
  clear ha hc ha2 hc2
  by_cases hlen : xs.length = ys.length
  · obtain ⟨L, hL⟩ : ∃ L, L = ys.length := ⟨_, rfl⟩
    have hLx : xs.length = L := by omega
    have hLm : L ≤ 1000000 := by omega
    rw [← hL, hLx]
    have HL := Lib.hid hL
    have HLX := Lib.hid hLx
    clear hL hLx hlen hlx
    go_enter Tryz.func30, Tryz.ntmps30
    go_wp2
    go_loopw [13] (fun v wr => Drew w wr ∧ ∃ i : Nat, v = .int .i64 (i : Int) ∧ i ≤ L ∧ ∀ j (hj : j < xs.length) (hj2 : j < ys.length), j < i → xs[j] = ys[j]) (fun v _ => L - (intOf v).toNat)
    case atStart => exact ⟨Drew.refl _, 0, rfl, Nat.zero_le _, fun j _ _ hj => absurd hj (by omega)⟩
    case round =>
      obtain ⟨hb, i, rfl, hi, hall⟩ := hrel
      have HALL := Lib.hid hall
      have HB := Lib.hid hb
      clear hall hb
      by_cases hlt : i < L
      · have h1 : i < xs.length := by have := HLX.out; omega
        have h2 : i < ys.length := by have := HL.out; omega
        obtain ⟨hg, hc⟩ := HC.out i (by simpa using h1)
        obtain ⟨hg2, hc2⟩ := HC2.out i (by simpa using h2)
        have hcb := (HB.out.bel.cell (p := ⟨g, q + i, none⟩) hg).trans hc
        have hcb2 := (HB.out.bel.cell (p := ⟨g2, q2 + i, none⟩) hg2).trans hc2
        have ea := HA.out (by intro e; have := congrArg List.length e; simp at this; subst this; simp at h1)
        have ea2 := HA2.out (by intro e; have := congrArg List.length e; simp at this; subst this; simp at h2)
        cases ea
        cases ea2
        have hd : decide ((i : Int) < (L : Int)) = true := by simp; omega
        obtain ⟨x, hx⟩ : ∃ x, xs[i] = x := ⟨_, rfl⟩
        obtain ⟨y, hy⟩ : ∃ y, ys[i] = y := ⟨_, rfl⟩
        rw [List.getElem_map, hx] at hcb
        rw [List.getElem_map, hy] at hcb2
        unfold uv at hcb hcb2
        have HX := Lib.hid hx
        have HY := Lib.hid hy
        clear hx hy hc hc2 hg hg2
        by_cases he : x = y
        · go_wp2_with fail
          go_region
          go_wp2
          go_roundw
          case rel => exact ⟨HB.out.more _, i + 1, by go_num, by omega, fun j hj hj2 hji => by
            rcases Nat.lt_or_ge j i with h1 | h1
            · exact HALL.out j hj hj2 h1
            · obtain rfl : j = i := by omega
              rw [HX.out, HY.out]
              exact he⟩
          case measure => simp [intOf]; omega
        · go_wp2_with fail
          go_region
          go_wp2
          go_ret
          have : xs ≠ ys := fun e => by
            subst e
            exact he (HX.out.symm.trans HY.out)
          exact ⟨by rw [decide_eq_false this]; rfl, HB.out.more _⟩
      · have hd : decide ((i : Int) < (L : Int)) = false := by simp; omega
        go_wp2
        go_ret
        refine ⟨?_, HB.out⟩
        have : xs = ys := List.ext_getElem (by rw [HLX.out, HL.out]) fun j h1 h2 => HALL.out j h1 h2 (by have := HL.out; omega)
        rw [decide_eq_true this]
        rfl
  · have hd0 : decide ((xs.length : Int) = (ys.length : Int)) = false := by simp; omega
    have hd1 : ¬ (xs.length : Int) = (ys.length : Int) := by omega
    have hne : xs ≠ ys := fun e => hlen (by rw [e])
    have HNE := Lib.hid hne
    clear hne
    go_enter Tryz.func30, Tryz.ntmps30
    go_wp2
    go_ret
    exact ⟨by rw [decide_eq_false HNE.out]; rfl, Drew.refl _⟩

set_option maxRecDepth 100000 in
set_option maxHeartbeats 1000000 in
theorem moments_any {w : World} {a b : Option Addr} {xs ys : List Int} {c d : Nat} (hx : Vals w a (xs.map iv)) (hy : Vals w b (ys.map iv)) (hlx : xs.length ≤ 1000000) :
    Calls Tryz.prog 7 #[.slice a xs.length c, .slice b ys.length d] w fun e w' => e = .returned (.bool (decide (xs = ys))) ∧ Drew w w' := by
  obtain ⟨g, q, ha, hc⟩ := hx
  obtain ⟨g2, q2, ha2, hc2⟩ := hy
  have HA := Lib.hid ha
  have HC := Lib.hid hc
  have HA2 := Lib.hid ha2
  have HC2 := Lib.hid hc2
  clear ha hc ha2 hc2
  by_cases hlen : xs.length = ys.length
  · obtain ⟨L, hL⟩ : ∃ L, L = ys.length := ⟨_, rfl⟩
    have hLx : xs.length = L := by omega
    have hLm : L ≤ 1000000 := by omega
    rw [← hL, hLx]
    have HL := Lib.hid hL
    have HLX := Lib.hid hLx
    clear hL hLx hlen hlx
    go_enter Tryz.func7, Tryz.ntmps7
    go_wp2
    go_loopw [5] (fun v wr => Drew w wr ∧ ∃ i : Nat, v = .int .i64 (i : Int) ∧ i ≤ L ∧ ∀ j (hj : j < xs.length) (hj2 : j < ys.length), j < i → xs[j] = ys[j]) (fun v _ => L - (intOf v).toNat)
    case atStart => exact ⟨Drew.refl _, 0, rfl, Nat.zero_le _, fun j _ _ hj => absurd hj (by omega)⟩
    case round =>
      obtain ⟨hb, i, rfl, hi, hall⟩ := hrel
      have HALL := Lib.hid hall
      have HB := Lib.hid hb
      clear hall hb
      by_cases hlt : i < L
      · have h1 : i < xs.length := by have := HLX.out; omega
        have h2 : i < ys.length := by have := HL.out; omega
        obtain ⟨hg, hc⟩ := HC.out i (by simpa using h1)
        obtain ⟨hg2, hc2⟩ := HC2.out i (by simpa using h2)
        have hcb := (HB.out.bel.cell (p := ⟨g, q + i, none⟩) hg).trans hc
        have hcb2 := (HB.out.bel.cell (p := ⟨g2, q2 + i, none⟩) hg2).trans hc2
        have ea := HA.out (by intro e; have := congrArg List.length e; simp at this; subst this; simp at h1)
        have ea2 := HA2.out (by intro e; have := congrArg List.length e; simp at this; subst this; simp at h2)
        cases ea
        cases ea2
        have hd : decide ((i : Int) < (L : Int)) = true := by simp; omega
        obtain ⟨x, hx⟩ : ∃ x, xs[i] = x := ⟨_, rfl⟩
        obtain ⟨y, hy⟩ : ∃ y, ys[i] = y := ⟨_, rfl⟩
        rw [List.getElem_map, hx] at hcb
        rw [List.getElem_map, hy] at hcb2
        unfold iv at hcb hcb2
        have HX := Lib.hid hx
        have HY := Lib.hid hy
        clear hx hy hc hc2 hg hg2
        by_cases he : x = y
        · go_wp2_with fail
          go_region
          go_wp2
          go_roundw
          case rel => exact ⟨HB.out.more _, i + 1, by go_num, by omega, fun j hj hj2 hji => by
            rcases Nat.lt_or_ge j i with h1 | h1
            · exact HALL.out j hj hj2 h1
            · obtain rfl : j = i := by omega
              rw [HX.out, HY.out]
              exact he⟩
          case measure => simp [intOf]; omega
        · go_wp2_with fail
          go_region
          go_wp2
          go_ret
          have : xs ≠ ys := fun e => by
            subst e
            exact he (HX.out.symm.trans HY.out)
          exact ⟨by rw [decide_eq_false this]; rfl, HB.out.more _⟩
      · have hd : decide ((i : Int) < (L : Int)) = false := by simp; omega
        go_wp2
        go_ret
        refine ⟨?_, HB.out⟩
        have : xs = ys := List.ext_getElem (by rw [HLX.out, HL.out]) fun j h1 h2 => HALL.out j h1 h2 (by have := HL.out; omega)
        rw [decide_eq_true this]
        rfl
  · have hd0 : decide ((xs.length : Int) = (ys.length : Int)) = false := by simp; omega
    have hd1 : ¬ (xs.length : Int) = (ys.length : Int) := by omega
    have hne : xs ≠ ys := fun e => hlen (by rw [e])
    have HNE := Lib.hid hne
    clear hne
    go_enter Tryz.func7, Tryz.ntmps7
    go_wp2
    go_ret
    exact ⟨by rw [decide_eq_false HNE.out]; rfl, Drew.refl _⟩

end Go.Proofs.YtoghalmjbbkjhaaGreatDoor.Job

namespace Go.Proofs.YtoghalmjbbkjhaaGreatDoor.Pk
open Go.RowKit

theorem run_text {P : Program} (w : World) (src e : TypeId) (hs : P.underlying src = some (.slice e)) (he : P.underlying e = some (.int .u8)) (x : Addr) (cap : Nat) (zs : List Int)
    (hcell : ∀ i, i < zs.length → w.cell? (x.add i) = some (.int .u8 (zs.getD i 0))) :
    ∀ dst, P.underlying dst = some .string → (convert src dst (.slice (some x) zs.length cap)).run P w = .ok (.string (strOfNums zs)) w := by
  intro dst hd
  have hl : (loadCells x zs.length).run P w = .ok (zs.map (Value.int .u8)).toArray w := by
    have := run_loadCells_list (P := P) w x (zs.map (Value.int .u8)) (fun j v hj => by
      have hjl : j < zs.length := by
        rcases Nat.lt_or_ge j zs.length with h | h
        · exact h
        · simp [List.getElem?_eq_none (show (zs.map (Value.int .u8)).length ≤ j by simpa using h)] at hj
      rw [hcell j hjl]
      simp [List.getElem?_eq_getElem hjl] at hj
      subst hj
      simp [List.getD, List.getElem?_eq_getElem hjl])
    simpa using this
  rw [run_convert_bytes_string w src dst e _ zs.length cap hs he hd, run_bytesToString w _ zs.length cap zs hl, foldl_push_bytes]
  simp [strOfNums, ByteArray.empty, ByteArray.emptyWithCapacity]
  rfl

/-- 'string(b)' -/
theorem Reads.text {w : World} {a : Option Addr} {zs : List Int} (h : Reads w a zs) (len cap : Nat) (hz : len = zs.length) :
    (convert 32 9 (.slice a len cap)).run Tryz.prog w = .ok (.string (strOfNums zs)) w := by
  subst hz
  cases a with
  | some x => exact run_text w _ _ Tryz.underlying32 Tryz.underlying5 x cap zs (fun i hi => h.at hi) _ Tryz.underlying9
  | none =>
    cases zs with
    | nil => exact run_convert_bytes_nil w _ _ Tryz.underlying32 Tryz.underlying5 _ _ _ Tryz.underlying9
    | cons z zs =>
      obtain ⟨x, hx, _⟩ := h.cell 0 (by simp)
      cases hx

end Go.Proofs.YtoghalmjbbkjhaaGreatDoor.Pk
