/- The reference's Last, by its contract. -/
import Derived.Test.YtgcineaodfomeaaDoorRefAfter8
namespace Go.Proofs.YtgcineaodfomeaaDoor
open Go.RowKit

/-- what Last told, in the end -/
def LastS (b : Nat → Nat) (s : Nat → Bool) (t : Int) (w : World) (e : Ending) (w' : World) : Prop := ∃ p : Int × Int, ((∃ r, p = (r, 0) ∧ Fire.LastIs b s t r) ∨ (p = (0, 5) ∧ Fire.NoLast b s t)) ∧ e = .returned (Fire.told p.1 p.2) ∧ Below w.heap.size w w'

set_option maxRecDepth 100000 in
set_option maxHeartbeats 4000000 in
theorem refLast_no (b : Nat → Nat) (s : Nat → Bool) (hb : ∀ k, k < 5 → b k < 2 ^ 64) (t r : Int) (hr : refusedOf (Cron.may b) [t] = r) (hr0 : r ≠ 0) (w : World) :
    Calls Tryd.prog 9 #[xval b s, .int .i64 t] w fun e w' => e = .returned (Fire.told 0 r) ∧ Below w.heap.size w w' := by
  have H0 := Lib.hid (OwnX.new w b s)
  have hR := fun W => refBad_any b s hb t W
  rw [hr] at hR
  have HR := Lib.hid hR
  have hne : (r == 0) = false := by simp [hr0]
  clear hR hb hr
  obtain ⟨x0, x1, x2, x3, x4, x5, x6, x7, x8, x9⟩ := xobj_cells H0.out.row
  unfold xval xcells at *
  go_enter Tryd.func9, Tryd.ntmps9
  go_wp2_with fail
  with_reducible refine (HR.out _).mono ?_
  rintro e w1 ⟨rfl, hb1⟩
  have H2 := Lib.hid (H0.out.below hb1)
  clear hb1 H0 HR x0 x1 x2 x3 x4 x5 x6 x7 x8 x9
  go_wp2_with fail
  exact bodyPost_ret (v := Fire.told 0 r) (by simp [results, Tryd.results9, go_sem, Fire.told]) rfl ⟨rfl, H2.out.bel⟩

set_option maxRecDepth 100000 in
set_option maxHeartbeats 4000000 in
theorem refLast_yes (b : Nat → Nat) (s : Nat → Bool) (hb : ∀ k, k < 5 → b k < 2 ^ 64) (hm : Cron.may b = true) (t : Int) (ht : 0 ≤ t ∧ t < 13569465600) (w : World) :
    Calls Tryd.prog 9 #[xval b s, .int .i64 t] w fun e w' => LastS b s t w e w' := by
  have H0 := Lib.hid (OwnX.new w b s)
  have hok : refusedOf (Cron.may b) [t] = 0 := by
    rcases @refused_one (Cron.may b) t with ⟨h, _⟩ | ⟨_, h, _⟩ | ⟨_, _, h⟩
    · rw [hm] at h; cases h
    · omega
    · exact h
  have hR := fun W => refBad_any b s hb t W
  rw [hok] at hR
  have HR := Lib.hid hR
  have HF := Lib.hid (fun y m d k W => refFits8_any b s hb y m d k W)
  have HH0 := Lib.hid (fun k W => refHas_any (b 0) (hb 0 (by decide)) (s 0) k W)
  have HH1 := Lib.hid (fun k W => refHas_any (b 1) (hb 1 (by decide)) (s 1) k W)
  clear hR hb hm hok
  obtain ⟨x0, x1, x2, x3, x4, x5, x6, x7, x8, x9⟩ := xobj_cells H0.out.row
  unfold xval xcells at *
  go_enter Tryd.func9, Tryd.ntmps9
  go_wp2_with fail
  with_reducible refine (HR.out _).mono ?_
  rintro e w1 ⟨rfl, hb1⟩
  have H2 := Lib.hid (H0.out.below hb1)
  clear hb1 H0 HR x0 x1 x2 x3 x4 x5 x6 x7 x8 x9
  · obtain ⟨y, m, d, h, i, s', k, hmay, hnum⟩ := Stm.onto t ht.1 ht.2
    have hS := fun W => Civ.refSplit_in y m d h i s' k W hmay
    rw [hnum] at hS
    have HS := Lib.hid hS
    have HM := Lib.hid hmay
    have HNUM := Lib.hid hnum
    clear hS hmay hnum
    go_wp2_with fail
    with_reducible refine (HS.out _).mono ?_
    rintro e w2 ⟨rfl, hb2⟩
    have H3 := Lib.hid (H2.out.below hb2)
    clear hb2 H2 HS
    go_wp2_with fail
    have od := Civ.OwnD.newAt ((H3.out.below ((Below.refl _ _).alloc (Nat.le_refl _) (.cells #[.int .i64 y, .int .i64 m, .int .i64 d, .int .i64 h, .int .i64 i, .int .i64 s', .int .i64 k] 36))).bel) y m d
    have h3x := (H3.out.below (((Below.refl _ w2).alloc (Nat.le_refl _) (.cells #[.int .i64 y, .int .i64 m, .int .i64 d, .int .i64 h, .int .i64 i, .int .i64 s', .int .i64 k] 36)).trans (((Below.refl _ _).alloc (Nat.le_refl _) (.cells #[.int .i64 y, .int .i64 m, .int .i64 d] 34)).mono (by simp))))
    have hsz : (w2.alloc (.cells #[.int .i64 y, .int .i64 m, .int .i64 d, .int .i64 h, .int .i64 i, .int .i64 s', .int .i64 k] 36)).heap.size = w2.heap.size + 1 := by simp
    rw [hsz] at od
    have O4 : Hid (RA w b s (w2.heap.size + 1) y m d ((w2.alloc (.cells #[.int .i64 y, .int .i64 m, .int .i64 d, .int .i64 h, .int .i64 i, .int .i64 s', .int .i64 k] 36)).alloc (.cells #[.int .i64 y, .int .i64 m, .int .i64 d] 34))) := ⟨od.bel, h3x.row, by have := lt_of_block H3.out.row; omega, od.row⟩
    clear od h3x hsz H3
    generalize (w2.alloc (.cells #[.int .i64 y, .int .i64 m, .int .i64 d, .int .i64 h, .int .i64 i, .int .i64 s', .int .i64 k] 36)).alloc (.cells #[.int .i64 y, .int .i64 m, .int .i64 d] 34) = w3 at *
    generalize w2.heap.size + 1 = D at *
    go_loopg [10, 11, 12] (t / 86400 + 1).toNat (fun gk p10 p11 p12 wr => ∃ n mi y m d k : Int, p12 = .int .i64 n ∧ p11 = .int .i64 mi ∧ p10 = .int .i64 k ∧ n + 1 = gk ∧ n < 157054 ∧ 0 ≤ mi ∧ mi < 1440 ∧ n * 86400 + mi * 60 ≤ t ∧
      Fire.ClearB b s (n * 86400 + mi * 60) t ∧ (0 ≤ n → Cal.may y m d ∧ Cal.num y m d = n ∧ k = Cal.week n) ∧ RA w b s D y m d wr)
    case atStart =>
      obtain ⟨p1, _⟩ := Stm.parts HM.out
      have hn := HNUM.out
      have hk := HM.out.2.2.2.2.2.2.2
      rw [hn] at p1
      refine ⟨t / 86400, t % 86400 / 60, y, m, d, k, rfl, rfl, rfl, by omega, by omega, by omega, by omega, by omega, Fire.clearB_start, fun _ => ⟨HM.out.1, p1.symm, by rw [p1]; exact hk⟩, O4.out⟩
    case round =>
      clear O4 HM HNUM
      obtain ⟨n, mi, y, m, d, k, rfl, rfl, rfl, hng, hn1, hmi0, hmi1, htn, hcl, hdt, ho⟩ := hrel
      have HC := Lib.hid hcl
      have HO := Lib.hid ho
      clear hcl ho
      by_cases hn0 : 0 ≤ n
      · have gl := decide_eq_true hn0
        obtain ⟨hmay, hnum, hk⟩ := hdt hn0
        have hsm := may_small hmay
        have HTM := Lib.hid (fun W => yesterday_any y m d hsm.1 hsm.2.1 hsm.2.2 W)
        have HNX : Hid (0 ≤ n - 1 → Cal.may (Fire.prev y m d).1 (Fire.prev y m d).2.1 (Fire.prev y m d).2.2 ∧ Cal.num (Fire.prev y m d).1 (Fire.prev y m d).2.1 (Fire.prev y m d).2.2 = n - 1) := fun hl => by
          rw [← hnum] at hl ⊢
          exact Fire.prev_ok hmay hl
        have HWK : Hid ((k + 6) % 7 = Cal.week (n - 1)) := by
          show _ = _
          rw [hk, Fire.week_prev]
        have hk7 : 0 ≤ k ∧ k ≤ 6 := by rw [hk]; unfold Cal.week; omega
        have HDY : Hid (Fire.dayOk b s n ↔ Cron.days b s m d k = true) := by
          have := Fire.dayOk_at (b := b) (s := s) hmay
          rw [hnum, ← hk] at this
          exact this
        have HFF := Lib.hid (fun W => HF.out y m d k W)
        generalize Cron.days b s m d k = dv at *
        obtain ⟨gd, hgd⟩ : ∃ gd, gd = gk := ⟨_, rfl⟩
        have hng' : n + 1 = (gd : Int) := by rw [hgd]; exact hng
        clear hdt hmay hnum hk hsm hng
        go_wp2_with fail
        go_loopg [11] (mi + 1).toNat (fun gk p11 wr => ∃ mi : Int, p11 = .int .i64 mi ∧ mi + 1 = gk ∧ mi < 1440 ∧ n * 86400 + mi * 60 ≤ t ∧ Fire.ClearB b s (n * 86400 + mi * 60) t ∧ RA w b s D y m d wr)
        case atStart => exact ⟨mi, rfl, by omega, by omega, by omega, HC.out, HO.out⟩
        case round =>
          clear HC HO hmi0 hmi1 htn
          obtain ⟨mi, rfl, hmg, hmi1, htn, hcl, ho⟩ := hrel
          have HC := Lib.hid hcl
          have HO := Lib.hid ho
          obtain ⟨x0, x1, x2, x3, x4, x5, x6, x7, x8, x9⟩ := xobj_cells ho.x
          obtain ⟨q0, q1, q2⟩ := Civ.triple_cells ho.d
          clear hcl ho
          go_wp2_with fail
          with_reducible refine (HFF.out _).mono ?_
          rintro e w4 ⟨rfl, hb4⟩
          have O5 := Lib.hid (HO.out.below hb4)
          clear hb4 HO x0 x1 x2 x3 x4 x5 x6 x7 x8 x9 q0 q1 q2
          obtain ⟨x0, x1, x2, x3, x4, x5, x6, x7, x8, x9⟩ := xobj_cells O5.out.x
          obtain ⟨q0, q1, q2⟩ := Civ.triple_cells O5.out.d
          clear x4 x5 x6 x7 x8 x9
          cases dv
          · clear x0 x1 x2 x3
            go_wp2_with fail
            with_reducible refine (HTM.out _).mono ?_
            rintro e w6 ⟨rfl, hb6⟩
            have O6 := Lib.hid (O5.out.below hb6)
            have r6 := triple_free O6.out.d
            obtain ⟨q0, q1, q2⟩ := Civ.triple_cells O6.out.d
            clear hb6
            go_wp2_with fail
            go_roundg (gd - 1)
            case measure => omega
            case rel => exact ⟨n - 1, 1439, _, _, _, (k + 6) % 7, by go_num, by go_num, by go_num, by omega, by omega, by omega, by omega, by omega, Fire.clearB_day hmi1 (fun h => by have := HDY.out.1 h; cases this) HC.out, fun hl => ⟨(HNX.out hl).1, (HNX.out hl).2, HWK.out⟩, O6.out.wrote _ _ _⟩
          · by_cases hml : 0 ≤ mi
            · have gm := decide_eq_true hml
              go_wp2_with fail
              with_reducible refine (HH0.out (mi % 60) _).mono ?_
              rintro e w5 ⟨rfl, hb5⟩
              have O6 := Lib.hid (O5.out.below hb5)
              clear hb5 O5 x0 x1 x2 x3 q0 q1 q2
              obtain ⟨x0, x1, x2, x3, x4, x5, x6, x7, x8, x9⟩ := xobj_cells O6.out.x
              clear x4 x5 x6 x7 x8 x9
              generalize hh0 : Fld.has (b 0) (mi % 60) = v0
              have HV0 := Lib.hid hh0
              clear hh0
              cases v0
              · clear x0 x1 x2 x3
                go_wp2_with fail
                go_roundg mi.toNat
                case measure => omega
                case rel => exact ⟨mi - 1, by go_num, by omega, by omega, by omega, Fire.clearB_minute hml hmi1 (by unfold Fire.minOk; rw [HV0.out]; rfl) HC.out, O6.out⟩
              · go_wp2_with fail
                with_reducible refine (HH1.out (mi / 60) _).mono ?_
                rintro e w6 ⟨rfl, hb6⟩
                have O7 := Lib.hid (O6.out.below hb6)
                clear hb6 O6 x0 x1 x2 x3
                generalize hh1 : Fld.has (b 1) (mi / 60) = v1
                have HV1 := Lib.hid hh1
                clear hh1
                cases v1
                · go_wp2_with fail
                  go_roundg mi.toNat
                  case measure => omega
                  case rel => exact ⟨mi - 1, by go_num, by omega, by omega, by omega, Fire.clearB_minute hml hmi1 (by unfold Fire.minOk; rw [HV1.out, Bool.and_false]) HC.out, O7.out⟩
                · go_wp2_with fail
                  exact bodyPost_ret (v := Fire.told (n * 86400 + mi * 60) 0) (by simp [results, Tryd.results9, go_sem, Fire.told]) rfl ⟨(n * 86400 + mi * 60, 0), .inl ⟨_, rfl, Fire.clearB_found hml hmi1 ⟨hn0, hn1⟩ (HDY.out.2 (by trivial)) (by unfold Fire.minOk; rw [HV0.out, HV1.out]; rfl) htn HC.out⟩, rfl, O7.out.bel⟩
            · have gm := decide_eq_false hml
              clear x0 x1 x2 x3
              go_wp2_with fail
              with_reducible refine (HTM.out _).mono ?_
              rintro e w6 ⟨rfl, hb6⟩
              have O6 := Lib.hid (O5.out.below hb6)
              have r6 := triple_free O6.out.d
              obtain ⟨q0, q1, q2⟩ := Civ.triple_cells O6.out.d
              clear hb6
              go_wp2_with fail
              go_roundg (gd - 1)
              case measure => omega
              case rel => exact ⟨n - 1, 1439, _, _, _, (k + 6) % 7, by go_num, by go_num, by go_num, by omega, by omega, by omega, by omega, by omega, (by obtain rfl : mi = -1 := (by omega); exact Fire.clearB_full HC.out), fun hl => ⟨(HNX.out hl).1, (HNX.out hl).2, HWK.out⟩, O6.out.wrote _ _ _⟩
      · have gl := decide_eq_false hn0
        go_wp2_with fail
        refine bodyPost_ret (v := Fire.told 0 5) (by simp [results, Tryd.results9, go_sem, Fire.told]) rfl ⟨(0, 5), .inr ⟨rfl, ?_⟩, rfl, HO.out.bel⟩
        exact fun u hu hf => HC.out u (by have := hf.1; omega) hu hf

theorem refLast_any (b : Nat → Nat) (s : Nat → Bool) (hb : ∀ k, k < 5 → b k < 2 ^ 64) (t : Int) (w : World) :
    Calls Tryd.prog 9 #[xval b s, .int .i64 t] w fun e w' => ∃ p : Int × Int, Fire.LastT b s t p ∧ e = .returned (Fire.told p.1 p.2) ∧ Below w.heap.size w w' := by
  rcases @refused_one (Cron.may b) t with ⟨hm, h⟩ | ⟨hm, ht, h⟩ | ⟨hm, ht, _⟩
  · exact (refLast_no b s hb t 2 h (by decide) w).mono fun e w' ⟨h1, h2⟩ => ⟨(0, 2), lastT_bad hm, h1, h2⟩
  · exact (refLast_no b s hb t 50 h (by decide) w).mono fun e w' ⟨h1, h2⟩ => ⟨(0, 50), lastT_out hm ht, h1, h2⟩
  · exact (refLast_yes b s hb hm t ht w).mono fun e w' ⟨p, h1, h2, h3⟩ => ⟨p, lastT_in hm ht h1, h2, h3⟩
end Go.Proofs.YtgcineaodfomeaaDoor
