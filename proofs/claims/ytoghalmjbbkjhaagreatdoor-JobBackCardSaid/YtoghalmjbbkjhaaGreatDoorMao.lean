/- next.dayFits: whether a day fits, and from which day to which none does, by its contract. next.All of an expression and moments that may be, by its contract: the iterator, and what it holds. next.After, by its contract: the first firing behind a moment. -/
import Derived.Test.YtoghalmjbbkjhaaGreatDoorMam
import Derived.Test.YtoghalmjbbkjhaaGreatDoorMan
namespace Go.Proofs.YtoghalmjbbkjhaaGreatDoor
open Go.RowKit

namespace Fire
/-- the days from F to L tell of n: it fits, or none of them does -/
structure Days (b : Nat → Nat) (s : Nat → Bool) (n F L : Int) (ok : Bool) : Prop where
  in_ : F ≤ n ∧ n ≤ L
  rng : 0 ≤ F ∧ L < 157054
  yes : ok = true → dayOk b s n
  no : ok = false → ∀ k, F ≤ k → k ≤ L → ¬ dayOk b s k
theorem month_days {y m d k : Int} (h : Cal.may y m d) (h1 : Cal.num y m d - d + 1 ≤ k) (h2 : k ≤ Cal.num y m d - d + Cal.long y m) :
    Cal.may y m (d + (k - Cal.num y m d)) ∧ Cal.num y m (d + (k - Cal.num y m d)) = k := by
  obtain ⟨q1, q2, q3, q4⟩ := h
  exact ⟨⟨q1, q2, by omega, by omega⟩, by unfold Cal.num; omega⟩
theorem month_range {y m d : Int} (h : Cal.may y m d) : 0 ≤ Cal.num y m d - d + 1 ∧ Cal.num y m d - d + Cal.long y m < 157054 := by
  have hd := h.2.2
  obtain ⟨a1, a2⟩ := month_days (k := Cal.num y m d - d + 1) h (by omega) (by omega)
  obtain ⟨b1, b2⟩ := month_days (k := Cal.num y m d - d + Cal.long y m) h (by omega) (by omega)
  have := Cal.num_range a1
  have := Cal.num_range b1
  omega
theorem days_month {b : Nat → Nat} {s : Nat → Bool} {y m d : Int} (h : Cal.may y m d) (hm : Fld.has (b 3) m = false) : Days b s (Cal.num y m d) (Cal.num y m d - d + 1) (Cal.num y m d - d + Cal.long y m) false where
  in_ := by have := h.2.2; omega
  rng := month_range h
  yes := fun e => by cases e
  no := fun _ k h1 h2 hk => by
    obtain ⟨a1, a2⟩ := month_days h h1 h2
    rw [← a2, dayOk_at a1] at hk
    unfold Cron.days at hk
    rw [hm] at hk
    cases hk
theorem days_one {b : Nat → Nat} {s : Nat → Bool} {y m d : Int} (h : Cal.may y m d) : Days b s (Cal.num y m d) (Cal.num y m d) (Cal.num y m d) (Cron.days b s m d (Cal.week (Cal.num y m d))) where
  in_ := by omega
  rng := by have := Cal.num_range h; omega
  yes := fun e => (dayOk_at h).2 e
  no := fun e k h1 h2 hk => by
    obtain rfl : k = Cal.num y m d := by omega
    rw [dayOk_at h, e] at hk
    cases hk
end Fire

set_option maxRecDepth 100000 in
set_option maxHeartbeats 4000000 in
theorem days_any (b : Nat → Nat) (s : Nat → Bool) (hb : ∀ k, k < 5 → b k < 2 ^ 64) (hm : Cron.may b = true) (n : Int) (hn : 0 ≤ n ∧ n < 157054) (w : World) (hw : World7 w) :
    Calls Tryz.prog 40 #[xval b s, .int .i64 n] w fun e w' => (∃ F L ok, Fire.Days b s n F L ok ∧ e = .returned (.tuple #[.int .i64 F, .int .i64 L, .bool ok])) ∧ Below w.heap.size w w' := by
  obtain ⟨y, m, d, hd, hnum⟩ := Cal.num_onto n hn.1 hn.2
  obtain ⟨k, hk⟩ : ∃ k, k = Cal.week (Cal.num y m d) := ⟨_, rfl⟩
  have hmay : Stm.may y m d 0 0 0 k := ⟨hd, by omega, by omega, by omega, by omega, by omega, by omega, hk⟩
  have hmn : Stm.num y m d 0 0 0 = n * 86400 := by unfold Stm.num; rw [hnum]; omega
  have hmo := Cal.may_month hd
  have hdd := hd.2.2
  have hlg := Cal.long_pos (y := y) hmo
  have hk7 : 0 ≤ k ∧ k ≤ 6 := by rw [hk]; unfold Cal.week; omega
  have hmr := Fire.month_range hd
  have D1 := Fire.days_month (b := b) (s := s) hd
  have D2 := Fire.days_one (b := b) (s := s) hd
  rw [hnum] at hmr D1 D2 hk
  rw [← hk] at D2
  have HS := fun W hW => Civ.split_in y m d 0 0 0 k W hW hmay
  rw [hmn] at HS
  have HH := has_any (b 3) (hb 3 (by decide)) (s 3) m
  have HF := fun W hW => dayFits_any b s hb y m d 0 0 0 k (by unfold inInts; refine five ?_ ?_ ?_ ?_ ?_ <;> simp only [shows] <;> omega) W hW
  have hfe : Cron.dayFits b s y m d 0 0 0 k = Cron.days b s m d k := by
    unfold Cron.dayFits
    rw [hm, decide_eq_true hmay]
    rfl
  rw [hfe] at HF
  have HL := fun W hW => Civ.long_any y m W hW
  have O0 := Lib.hid (OwnX.new w b s)
  generalize Cal.long y m = lg at *
  generalize Cron.days b s m d k = dv at *
  generalize hhv : Fld.has (b 3) m = hv at *
  have HHV := Lib.hid hhv
  have HS := Lib.hid HS
  have HH := Lib.hid HH
  have HF := Lib.hid HF
  have HL := Lib.hid HL
  have HW := Lib.hid hw
  have D1 := Lib.hid D1
  have D2 := Lib.hid D2
  clear hhv hfe hmn hmay hd hnum hk hb hm hw
  unfold xval xcells at *
  go_enter Tryz.func40, Tryz.ntmps40
  go_wp2_with fail
  with_reducible refine (HS.out _ ((HW.out.next O0.out.bel).mon.on (Below.refl _ _))).mono ?_
  rintro e w1 ⟨rfl, hb1⟩
  have O1 := O0.out.below hb1
  have C2 := Civ.Own.newAt O1.bel y m d 0 0 0 k
  have O2 := O1.alloc (.cells #[.int .i64 y, .int .i64 m, .int .i64 d, .int .i64 0, .int .i64 0, .int .i64 0, .int .i64 k] 49)
  clear hb1 O0 HS O1
  obtain ⟨c0, c1, c2, c3, c4, c5, c6, c7, c8, c9⟩ := xobj_cells O2.row
  obtain ⟨d0, d1, d2, d3, d4, d5, d6⟩ := Civ.clk_cells C2.row
  have O3 := Lib.hid O2
  have C3 := Lib.hid C2
  clear C2 O2
  go_wp2_with fail
  generalize w1.heap.size = C at *
  generalize w1.alloc (.cells #[.int .i64 y, .int .i64 m, .int .i64 d, .int .i64 0, .int .i64 0, .int .i64 0, .int .i64 k] 49) = W2 at *
  with_reducible refine (HH.out _ (by omega)).mono ?_
  rintro e w3 ⟨rfl, hb3⟩
  have O4 := Lib.hid (O3.out.below hb3)
  have C4 := Lib.hid (C3.out.below hb3)
  clear hb3 O3 C3 HH c0 c1 c2 c3 c4 c5 c6 c7 c8 c9 d0 d1 d2 d3 d4 d5 d6
  obtain ⟨c0, c1, c2, c3, c4, c5, c6, c7, c8, c9⟩ := xobj_cells O4.out.row
  obtain ⟨d0, d1, d2, d3, d4, d5, d6⟩ := Civ.clk_cells C4.out.row
  have bel := Lib.hid O4.out.bel
  cases hv
  · go_wp2_with fail
    with_reducible refine (HL.out _ ((HW.out.next bel.out).mon.on (Below.refl _ _))).mono ?_
    rintro e w5 ⟨rfl, hb5⟩
    have bel5 := Lib.hid (bel.out.trans (hb5.mono bel.out.size))
    clear hb5 c0 c1 c2 c3 c4 c5 c6 c7 c8 c9 d0 d1 d2 d3 d4 d5 d6
    go_wp2_with fail
    refine bodyPost_ret (v := .tuple #[.int .i64 (n - d + 1), .int .i64 (n - d + 1 + lg - 1), .bool false]) (by simp [results, Tryz.results40, go_sem]) rfl ⟨⟨_, _, false, D1.out trivial, ?_⟩, bel5.out⟩
    rw [show n - d + 1 + lg - 1 = n - d + lg by omega]
  · go_wp2_with fail
    with_reducible refine (HF.out _ (HW.out.next bel.out)).mono ?_
    rintro e w5 ⟨rfl, hb5⟩
    have bel5 := Lib.hid (bel.out.trans (hb5.mono bel.out.size))
    clear hb5 c0 c1 c2 c3 c4 c5 c6 c7 c8 c9 d0 d1 d2 d3 d4 d5 d6
    go_wp2_with fail
    exact bodyPost_ret (v := .tuple #[.int .i64 n, .int .i64 n, .bool dv]) (by simp [results, Tryz.results40, go_sem]) rfl ⟨⟨_, _, dv, D2.out, rfl⟩, bel5.out⟩
end Go.Proofs.YtoghalmjbbkjhaaGreatDoor

namespace Go.Proofs.YtoghalmjbbkjhaaGreatDoor
open Go.RowKit

theorem farOut_in {t : Int} (h : 0 ≤ t ∧ t < 13569465600) : farOut t = false := by unfold farOut; simp; omega
theorem row_two (W : World) (n : Nat) (hn : W.heap.size = n) (f t : Int) : n < (W.alloc (.cells #[.int .i64 f, .int .i64 t] 2)).heap.size ∧
    ∀ (i : Nat) u, [f, t][i]? = some u → (W.alloc (.cells #[.int .i64 f, .int .i64 t] 2)).cell? ⟨n, i, none⟩ = some (.int .i64 u) := by
  subst hn
  have h := heap_alloc_new W (.cells #[.int .i64 f, .int .i64 t] 2)
  refine ⟨by simp, fun i u hu => ?_⟩
  match i with
  | 0 => simp at hu; subst hu; exact cell_of_row _ _ 0 _ _ _ h
  | 1 => simp at hu; subst hu; exact cell_of_row _ _ 1 _ _ _ h
  | i + 2 => simp at hu
theorem row_one (W : World) (n : Nat) (hn : W.heap.size = n) (f : Int) : n < (W.alloc (.cells #[.int .i64 f] 2)).heap.size ∧
    ∀ (i : Nat) u, [f][i]? = some u → (W.alloc (.cells #[.int .i64 f] 2)).cell? ⟨n, i, none⟩ = some (.int .i64 u) := by
  subst hn
  have h := heap_alloc_new W (.cells #[.int .i64 f] 2)
  refine ⟨by simp, fun i u hu => ?_⟩
  match i with
  | 0 => simp at hu; subst hu; exact cell_of_row _ _ 0 _ _ _ h
  | i + 1 => simp at hu

end Go.Proofs.YtoghalmjbbkjhaaGreatDoor

namespace Go.Proofs.YtoghalmjbbkjhaaGreatDoor
open Go.RowKit Go.Shelf
attribute [local go_sem] Oper.semAt_some

theorem tables_low {w : World} (h : World7 w) : 1 < w.heap.size ∧ 2 < w.heap.size :=
  ⟨(h.mon.on (Below.refl _ _)).1, lt_of_cell (h.tabs.here.low 0 (by decide)).1⟩
theorem refused_one {m : Bool} {t : Int} : (m = false ∧ refusedOf m [t] = 2) ∨ (m = true ∧ (t < 0 ∨ 13569465600 ≤ t) ∧ refusedOf m [t] = 50) ∨ (m = true ∧ (0 ≤ t ∧ t < 13569465600) ∧ refusedOf m [t] = 0) := by
  cases m
  · exact .inl ⟨rfl, rfl⟩
  · by_cases h : 0 ≤ t ∧ t < 13569465600
    · refine .inr (.inr ⟨rfl, h, refused_ok fun i u hu => ?_⟩)
      match i with
      | 0 => simp at hu; subst hu; exact farOut_in h
      | i + 1 => simp at hu
    · refine .inr (.inl ⟨rfl, by omega, refused_out (i := 0) rfl ?_⟩)
      unfold farOut; simp; omega
theorem afterT_bad {b : Nat → Nat} {s : Nat → Bool} {t : Int} (h : Cron.may b = false) : Fire.AfterT b s t (0, 2) := by unfold Fire.AfterT; rw [if_pos h]
theorem afterT_out {b : Nat → Nat} {s : Nat → Bool} {t : Int} (h : Cron.may b = true) (ht : t < 0 ∨ 13569465600 ≤ t) : Fire.AfterT b s t (0, 50) := by unfold Fire.AfterT; rw [if_neg (by rw [h]; decide), if_pos ht]
theorem afterT_in {b : Nat → Nat} {s : Nat → Bool} {t : Int} {p : Int × Int} (h : Cron.may b = true) (ht : 0 ≤ t ∧ t < 13569465600) (hp : (∃ r, p = (r, 0) ∧ Fire.AfterIs b s t r) ∨ (p = (0, 5) ∧ Fire.NoAfter b s t)) : Fire.AfterT b s t p := by
  unfold Fire.AfterT; rw [if_neg (by rw [h]; decide), if_neg (by omega)]; exact hp
theorem lastT_bad {b : Nat → Nat} {s : Nat → Bool} {t : Int} (h : Cron.may b = false) : Fire.LastT b s t (0, 2) := by unfold Fire.LastT; rw [if_pos h]
theorem lastT_out {b : Nat → Nat} {s : Nat → Bool} {t : Int} (h : Cron.may b = true) (ht : t < 0 ∨ 13569465600 ≤ t) : Fire.LastT b s t (0, 50) := by unfold Fire.LastT; rw [if_neg (by rw [h]; decide), if_pos ht]
theorem lastT_in {b : Nat → Nat} {s : Nat → Bool} {t : Int} {p : Int × Int} (h : Cron.may b = true) (ht : 0 ≤ t ∧ t < 13569465600) (hp : (∃ r, p = (r, 0) ∧ Fire.LastIs b s t r) ∨ (p = (0, 5) ∧ Fire.NoLast b s t)) : Fire.LastT b s t p := by
  unfold Fire.LastT; rw [if_neg (by rw [h]; decide), if_neg (by omega)]; exact hp
end Go.Proofs.YtoghalmjbbkjhaaGreatDoor
