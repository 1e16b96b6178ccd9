/- The reference's After, by its contract. -/
import Derived.Test.YtgcineaodfomeaaDoorRefStep8
import Derived.Test.YtgcineaodfomeaaDoorCSplitIn
import Derived.Test.YtgcineaodfomeaaDoorAfter8
namespace Go.Proofs.YtgcineaodfomeaaDoor
open Go.RowKit

/-- an expression, and a date further on -/
structure RA (w : World) (b : Nat → Nat) (s : Nat → Bool) (D : Nat) (y m d : Int) (W : World) : Prop where
  bel : Below w.heap.size w W
  x : W.heap[w.heap.size]? = some (xobj b s)
  gt : w.heap.size < D
  d : W.heap[D]? = some (Civ.triple y m d)
theorem RA.below {w : World} {b : Nat → Nat} {s : Nat → Bool} {D : Nat} {y m d : Int} {W W' : World} (h : RA w b s D y m d W) (hb : Below W.heap.size W W') : RA w b s D y m d W' :=
  ⟨h.bel.trans (hb.mono h.bel.size), (hb.block _ (lt_of_block h.x)).trans h.x, h.gt, (hb.block _ (lt_of_block h.d)).trans h.d⟩
theorem RA.wrote {w : World} {b : Nat → Nat} {s : Nat → Bool} {D : Nat} {y m d : Int} {W : World} (h : RA w b s D y m d W) (y' m' d' : Int) :
    RA w b s D y' m' d' (((W.setCell ⟨D, 0, none⟩ (.int .i64 y')).setCell ⟨D, 1, none⟩ (.int .i64 m')).setCell ⟨D, 2, none⟩ (.int .i64 d')) :=
  ⟨((h.bel.setCell (p := ⟨D, 0, none⟩) (show w.heap.size ≤ D from Nat.le_of_lt h.gt) _).setCell (p := ⟨D, 1, none⟩) (show w.heap.size ≤ D from Nat.le_of_lt h.gt) _).setCell (p := ⟨D, 2, none⟩) (show w.heap.size ≤ D from Nat.le_of_lt h.gt) _,
   by
    have hne : D ≠ w.heap.size := Nat.ne_of_gt h.gt
    rw [set_else hne, set_else hne, set_else hne]
    exact h.x, h.gt, Civ.wrote_row h.d⟩
theorem may_small {y m d : Int} (h : Cal.may y m d) : (-100000 ≤ y ∧ y ≤ 100000) ∧ (-100000 ≤ m ∧ m ≤ 100000) ∧ (-100000 ≤ d ∧ d ≤ 100000) := by
  obtain ⟨h1, h2, h3, h4⟩ := id h
  have hm := Cal.may_month h
  have := long_in y m
  omega

/-- what After told, in the end -/
def AfterS (b : Nat → Nat) (s : Nat → Bool) (t : Int) (w : World) (e : Ending) (w' : World) : Prop := ∃ p : Int × Int, ((∃ r, p = (r, 0) ∧ Fire.AfterIs b s t r) ∨ (p = (0, 5) ∧ Fire.NoAfter b s t)) ∧ e = .returned (Fire.told p.1 p.2) ∧ Below w.heap.size w w'

set_option maxRecDepth 100000 in
set_option maxHeartbeats 4000000 in
theorem refAfter_no (b : Nat → Nat) (s : Nat → Bool) (hb : ∀ k, k < 5 → b k < 2 ^ 64) (t r : Int) (hr : refusedOf (Cron.may b) [t] = r) (hr0 : r ≠ 0) (w : World) :
    Calls Tryd.prog 7 #[xval b s, .int .i64 t] w fun e w' => e = .returned (Fire.told 0 r) ∧ Below w.heap.size w w' := by
  have H0 := Lib.hid (OwnX.new w b s)
  have hR := fun W => refBad_any b s hb t W
  rw [hr] at hR
  have HR := Lib.hid hR
  have hne : (r == 0) = false := by simp [hr0]
  clear hR hb hr
  obtain ⟨x0, x1, x2, x3, x4, x5, x6, x7, x8, x9⟩ := xobj_cells H0.out.row
  unfold xval xcells at *
  go_enter Tryd.func7, Tryd.ntmps7
  go_wp2_with fail
  with_reducible refine (HR.out _).mono ?_
  rintro e w1 ⟨rfl, hb1⟩
  have H2 := Lib.hid (H0.out.below hb1)
  clear hb1 H0 HR x0 x1 x2 x3 x4 x5 x6 x7 x8 x9
  go_wp2_with fail
  exact bodyPost_ret (v := Fire.told 0 r) (by simp [results, Tryd.results7, go_sem, Fire.told]) rfl ⟨rfl, H2.out.bel⟩

set_option maxRecDepth 100000 in
set_option maxHeartbeats 4000000 in
theorem refAfter_yes (b : Nat → Nat) (s : Nat → Bool) (hb : ∀ k, k < 5 → b k < 2 ^ 64) (hm : Cron.may b = true) (t : Int) (ht : 0 ≤ t ∧ t < 13569465600) (w : World) :
    Calls Tryd.prog 7 #[xval b s, .int .i64 t] w fun e w' => AfterS b s t w e w' := by
  have H0 := Lib.hid (OwnX.new w b s)
  have hok : refusedOf (Cron.may b) [t] = 0 := by
    rcases @refused_one (Cron.may b) t with ⟨h, _⟩ | ⟨_, h, _⟩ | ⟨_, _, h⟩
    · rw [hm] at h; cases h
    · omega
    · exact h
  have hR := fun W => refBad_any b s hb t W
  rw [hok] at hR
  have HR := Lib.hid hR
  have HF := Lib.hid (fun y m d k W => refFits8_any b s hb y m d k W)
  have HH0 := Lib.hid (fun k W => refHas_any (b 0) (hb 0 (by decide)) (s 0) k W)
  have HH1 := Lib.hid (fun k W => refHas_any (b 1) (hb 1 (by decide)) (s 1) k W)
  have e1 : t.tdiv 60 = t / 60 := Int.tdiv_eq_ediv_of_nonneg ht.1
  obtain ⟨t2, ht2⟩ : ∃ t2, t2 = t / 60 * 60 + 60 := ⟨_, rfl⟩
  have HT2 := Lib.hid ht2
  have HST : Hid (Fire.Clear b s (t + 1) t2) := by
    show Fire.Clear b s (t + 1) t2
    rw [ht2]
    exact Fire.clear_start
  have hlt : t < t2 := by omega
  clear hR hb hm hok
  obtain ⟨x0, x1, x2, x3, x4, x5, x6, x7, x8, x9⟩ := xobj_cells H0.out.row
  unfold xval xcells at *
  go_enter Tryd.func7, Tryd.ntmps7
  go_wp2_with fail
  with_reducible refine (HR.out _).mono ?_
  rintro e w1 ⟨rfl, hb1⟩
  have H2 := Lib.hid (H0.out.below hb1)
  clear hb1 H0 HR x0 x1 x2 x3 x4 x5 x6 x7 x8 x9
  by_cases hend : 13569465600 ≤ t2
  · have g := decide_eq_true hend
    rw [ht2] at g
    go_wp2_with fail
    refine bodyPost_ret (v := Fire.told 0 5) (by simp [results, Tryd.results7, go_sem, Fire.told]) rfl ⟨(0, 5), .inr ⟨rfl, fun u hu hf => ?_⟩, rfl, H2.out.bel⟩
    exact HST.out u (by omega) (by have := hf.2.1; omega) hf
  · have g := decide_eq_false hend
    obtain ⟨y, m, d, h, i, s', k, hmay, hnum⟩ := Stm.onto t2 (by omega) (by omega)
    have hS := fun W => Civ.refSplit_in y m d h i s' k W hmay
    rw [hnum, ht2] at hS
    rw [ht2] at g
    have HS := Lib.hid hS
    have HM := Lib.hid hmay
    have HNUM := Lib.hid hnum
    clear hS hmay hnum
    go_wp2_with fail
    with_reducible refine (HS.out _).mono ?_
    rintro e w2 ⟨rfl, hb2⟩
    have H3 := Lib.hid (H2.out.below hb2)
    clear hb2 H2 HS
    go_wp2_with fail
    have od := Civ.OwnD.newAt ((H3.out.below ((Below.refl _ _).alloc (Nat.le_refl _) (.cells #[.int .i64 y, .int .i64 m, .int .i64 d, .int .i64 h, .int .i64 i, .int .i64 s', .int .i64 k] 36))).bel) y m d
    have h3x := (H3.out.below (((Below.refl _ w2).alloc (Nat.le_refl _) (.cells #[.int .i64 y, .int .i64 m, .int .i64 d, .int .i64 h, .int .i64 i, .int .i64 s', .int .i64 k] 36)).trans (((Below.refl _ _).alloc (Nat.le_refl _) (.cells #[.int .i64 y, .int .i64 m, .int .i64 d] 34)).mono (by simp))))
    have hsz : (w2.alloc (.cells #[.int .i64 y, .int .i64 m, .int .i64 d, .int .i64 h, .int .i64 i, .int .i64 s', .int .i64 k] 36)).heap.size = w2.heap.size + 1 := by simp
    rw [hsz] at od
    have O4 : Hid (RA w b s (w2.heap.size + 1) y m d ((w2.alloc (.cells #[.int .i64 y, .int .i64 m, .int .i64 d, .int .i64 h, .int .i64 i, .int .i64 s', .int .i64 k] 36)).alloc (.cells #[.int .i64 y, .int .i64 m, .int .i64 d] 34))) := ⟨od.bel, h3x.row, by have := lt_of_block H3.out.row; omega, od.row⟩
    clear od h3x hsz H3
    generalize (w2.alloc (.cells #[.int .i64 y, .int .i64 m, .int .i64 d, .int .i64 h, .int .i64 i, .int .i64 s', .int .i64 k] 36)).alloc (.cells #[.int .i64 y, .int .i64 m, .int .i64 d] 34) = w3 at *
    generalize w2.heap.size + 1 = D at *
    go_loopg [10, 11, 12] (157054 - t2 / 86400).toNat (fun gk p10 p11 p12 wr => ∃ n mi y m d k : Int, p12 = .int .i64 n ∧ p11 = .int .i64 mi ∧ p10 = .int .i64 k ∧ n + gk = 157054 ∧ 0 ≤ n ∧ 0 ≤ mi ∧ mi < 1440 ∧ t < n * 86400 + mi * 60 ∧
      Fire.Clear b s (t + 1) (n * 86400 + mi * 60) ∧ (n < 157054 → Cal.may y m d ∧ Cal.num y m d = n ∧ k = Cal.week n) ∧ RA w b s D y m d wr)
    case atStart =>
      obtain ⟨p1, _⟩ := Stm.parts HM.out
      have hn := HNUM.out
      have hk := HM.out.2.2.2.2.2.2.2
      rw [hn] at p1
      have hmin : t2 / 86400 * 86400 + t2 % 86400 / 60 * 60 = t2 := by omega
      refine ⟨t2 / 86400, t2 % 86400 / 60, y, m, d, k, by rw [ht2], by rw [ht2], rfl, by omega, by omega, by omega, by omega, by omega, by rw [hmin]; exact HST.out, fun _ => ⟨HM.out.1, p1.symm, by rw [p1]; exact hk⟩, O4.out⟩
    case round =>
      clear O4 HM HNUM
      obtain ⟨n, mi, y, m, d, k, rfl, rfl, rfl, hng, hn0, hmi0, hmi1, htn, hcl, hdt, ho⟩ := hrel
      have HC := Lib.hid hcl
      have HO := Lib.hid ho
      clear hcl ho
      by_cases hlt : n < 157054
      · have gl := decide_eq_true hlt
        obtain ⟨hmay, hnum, hk⟩ := hdt hlt
        have hsm := may_small hmay
        have HTM := Lib.hid (fun W => tomorrow_any y m d hsm.1 hsm.2.1 hsm.2.2 W)
        have HNX : Hid (n + 1 < 157054 → Cal.may (Fire.next y m d).1 (Fire.next y m d).2.1 (Fire.next y m d).2.2 ∧ Cal.num (Fire.next y m d).1 (Fire.next y m d).2.1 (Fire.next y m d).2.2 = n + 1) := fun hl => by
          rw [← hnum] at hl ⊢
          exact Fire.next_ok hmay hl
        have HWK : Hid ((k + 1) % 7 = Cal.week (n + 1)) := by
          show _ = _
          rw [hk, Fire.week_next]
        have hk7 : 0 ≤ k ∧ k ≤ 6 := by rw [hk]; unfold Cal.week; omega
        have HDY : Hid (Fire.dayOk b s n ↔ Cron.days b s m d k = true) := by
          have := Fire.dayOk_at (b := b) (s := s) hmay
          rw [hnum, ← hk] at this
          exact this
        have HFF := Lib.hid (fun W => HF.out y m d k W)
        generalize Cron.days b s m d k = dv at *
        obtain ⟨gd, hgd⟩ : ∃ gd, gd = gk := ⟨_, rfl⟩
        have hng' : n + (gd : Int) = 157054 := by rw [hgd]; exact hng
        clear hdt hmay hnum hk hsm hng
        go_wp2_with fail
        go_loopg [11] (1440 - mi).toNat (fun gk p11 wr => ∃ mi : Int, p11 = .int .i64 mi ∧ mi + gk = 1440 ∧ 0 ≤ mi ∧ t < n * 86400 + mi * 60 ∧ Fire.Clear b s (t + 1) (n * 86400 + mi * 60) ∧ RA w b s D y m d wr)
        case atStart => exact ⟨mi, rfl, by omega, by omega, by omega, HC.out, HO.out⟩
        case round =>
          clear HC HO hmi0 hmi1 htn
          obtain ⟨mi, rfl, hmg, hmi0, htn, hcl, ho⟩ := hrel
          have HC := Lib.hid hcl
          have HO := Lib.hid ho
          obtain ⟨x0, x1, x2, x3, x4, x5, x6, x7, x8, x9⟩ := xobj_cells ho.x
          obtain ⟨q0, q1, q2⟩ := Civ.triple_cells ho.d
          clear hcl ho
          go_wp2_with fail
          with_reducible refine (HFF.out _).mono ?_
          rintro e w4 ⟨rfl, hb4⟩
          have O5 := Lib.hid (HO.out.below hb4)
          clear hb4 HO x0 x1 x2 x3 x4 x5 x6 x7 x8 x9 q0 q1 q2
          obtain ⟨x0, x1, x2, x3, x4, x5, x6, x7, x8, x9⟩ := xobj_cells O5.out.x
          obtain ⟨q0, q1, q2⟩ := Civ.triple_cells O5.out.d
          clear x4 x5 x6 x7 x8 x9
          cases dv
          · clear x0 x1 x2 x3
            go_wp2_with fail
            with_reducible refine (HTM.out _).mono ?_
            rintro e w6 ⟨rfl, hb6⟩
            have O6 := Lib.hid (O5.out.below hb6)
            have r6 := triple_free O6.out.d
            obtain ⟨q0, q1, q2⟩ := Civ.triple_cells O6.out.d
            clear hb6
            go_wp2_with fail
            go_roundg (gd - 1)
            case measure => omega
            case rel => exact ⟨n + 1, 0, _, _, _, (k + 1) % 7, by go_num, by go_num, by go_num, by omega, by omega, by omega, by omega, by omega, Fire.clear_day hmi0 (fun h => by have := HDY.out.1 h; cases this) HC.out, fun hl => ⟨(HNX.out hl).1, (HNX.out hl).2, HWK.out⟩, O6.out.wrote _ _ _⟩
          · by_cases hml : mi < 1440
            · have gm := decide_eq_true hml
              go_wp2_with fail
              with_reducible refine (HH0.out (mi % 60) _).mono ?_
              rintro e w5 ⟨rfl, hb5⟩
              have O6 := Lib.hid (O5.out.below hb5)
              clear hb5 O5 x0 x1 x2 x3 q0 q1 q2
              obtain ⟨x0, x1, x2, x3, x4, x5, x6, x7, x8, x9⟩ := xobj_cells O6.out.x
              clear x4 x5 x6 x7 x8 x9
              generalize hh0 : Fld.has (b 0) (mi % 60) = v0
              have HV0 := Lib.hid hh0
              clear hh0
              cases v0
              · clear x0 x1 x2 x3
                go_wp2_with fail
                go_roundg (1440 - (mi + 1)).toNat
                case measure => omega
                case rel => exact ⟨mi + 1, by go_num, by omega, by omega, by omega, Fire.clear_minute hmi0 hml (by unfold Fire.minOk; rw [HV0.out]; rfl) HC.out, O6.out⟩
              · go_wp2_with fail
                with_reducible refine (HH1.out (mi / 60) _).mono ?_
                rintro e w6 ⟨rfl, hb6⟩
                have O7 := Lib.hid (O6.out.below hb6)
                clear hb6 O6 x0 x1 x2 x3
                generalize hh1 : Fld.has (b 1) (mi / 60) = v1
                have HV1 := Lib.hid hh1
                clear hh1
                cases v1
                · go_wp2_with fail
                  go_roundg (1440 - (mi + 1)).toNat
                  case measure => omega
                  case rel => exact ⟨mi + 1, by go_num, by omega, by omega, by omega, Fire.clear_minute hmi0 hml (by unfold Fire.minOk; rw [HV1.out, Bool.and_false]) HC.out, O7.out⟩
                · go_wp2_with fail
                  exact bodyPost_ret (v := Fire.told (n * 86400 + mi * 60) 0) (by simp [results, Tryd.results7, go_sem, Fire.told]) rfl ⟨(n * 86400 + mi * 60, 0), .inl ⟨_, rfl, Fire.clear_found hmi0 hml ⟨hn0, hlt⟩ (HDY.out.2 (by trivial)) (by unfold Fire.minOk; rw [HV0.out, HV1.out]; rfl) htn HC.out⟩, rfl, O7.out.bel⟩
            · have gm := decide_eq_false hml
              clear x0 x1 x2 x3
              go_wp2_with fail
              with_reducible refine (HTM.out _).mono ?_
              rintro e w6 ⟨rfl, hb6⟩
              have O6 := Lib.hid (O5.out.below hb6)
              have r6 := triple_free O6.out.d
              obtain ⟨q0, q1, q2⟩ := Civ.triple_cells O6.out.d
              clear hb6
              go_wp2_with fail
              go_roundg (gd - 1)
              case measure => omega
              case rel => exact ⟨n + 1, 0, _, _, _, (k + 1) % 7, by go_num, by go_num, by go_num, by omega, by omega, by omega, by omega, by omega, (by obtain rfl : mi = 1440 := (by omega); exact Fire.clear_full HC.out), fun hl => ⟨(HNX.out hl).1, (HNX.out hl).2, HWK.out⟩, O6.out.wrote _ _ _⟩
      · have gl := decide_eq_false hlt
        go_wp2_with fail
        refine bodyPost_ret (v := Fire.told 0 5) (by simp [results, Tryd.results7, go_sem, Fire.told]) rfl ⟨(0, 5), .inr ⟨rfl, ?_⟩, rfl, HO.out.bel⟩
        obtain rfl : n = 157054 := by omega
        exact Fire.clear_end HC.out hmi0

theorem refAfter_any (b : Nat → Nat) (s : Nat → Bool) (hb : ∀ k, k < 5 → b k < 2 ^ 64) (t : Int) (w : World) :
    Calls Tryd.prog 7 #[xval b s, .int .i64 t] w fun e w' => ∃ p : Int × Int, Fire.AfterT b s t p ∧ e = .returned (Fire.told p.1 p.2) ∧ Below w.heap.size w w' := by
  rcases @refused_one (Cron.may b) t with ⟨hm, h⟩ | ⟨hm, ht, h⟩ | ⟨hm, ht, _⟩
  · exact (refAfter_no b s hb t 2 h (by decide) w).mono fun e w' ⟨h1, h2⟩ => ⟨(0, 2), afterT_bad hm, h1, h2⟩
  · exact (refAfter_no b s hb t 50 h (by decide) w).mono fun e w' ⟨h1, h2⟩ => ⟨(0, 50), afterT_out hm ht, h1, h2⟩
  · exact (refAfter_yes b s hb hm t ht w).mono fun e w' ⟨p, h1, h2, h3⟩ => ⟨p, afterT_in hm ht h1, h2, h3⟩
end Go.Proofs.YtgcineaodfomeaaDoor
