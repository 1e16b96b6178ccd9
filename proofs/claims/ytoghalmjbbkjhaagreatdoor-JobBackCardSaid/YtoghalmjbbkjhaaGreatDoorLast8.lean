/- next.Last, by its contract: the last firing up to a moment. -/
import Derived.Test.YtoghalmjbbkjhaaGreatDoorMao
namespace Go.Proofs.YtoghalmjbbkjhaaGreatDoor
open Go.RowKit
namespace Fire
variable {b : Nat → Nat} {s : Nat → Bool} {t n h i : Int}
theorem bk_day {F L : Int} (hd : Days b s n F L false) (hc : ClearB b s ((n + 1) * 86400 - 1) t) : ClearB b s (F * 86400 - 1) t := fun u h1 h2 hf => by
  rcases Int.lt_or_le ((n + 1) * 86400 - 1) u with q | q
  · exact hc u q h2 hf
  · have := hd.in_
    exact hd.no rfl (u / 86400) (by omega) (by omega) hf.2.2.2.1
theorem bk_late {c : Int} (hc : t < c) : ClearB b s (c - 1) t := fun u h1 h2 => by omega
theorem bk_hour (h0 : 0 ≤ h ∧ h < 24) (hh : Fld.has (b 1) h = false) (hc : ClearB b s (n * 86400 + (h + 1) * 3600 - 1) t) : ClearB b s (n * 86400 + h * 3600 - 1) t := fun u h1 h2 hf => by
  rcases Int.lt_or_le (n * 86400 + (h + 1) * 3600 - 1) u with q | q
  · exact hc u q h2 hf
  · have hk := hf.2.2.2.2
    unfold minOk at hk
    rw [show u % 86400 / 60 / 60 = h by omega, hh, Bool.and_false] at hk
    cases hk
theorem bk_minute (hi : 0 ≤ i ∧ i < 60) (hh : Fld.has (b 0) i = false) (hc : ClearB b s (n * 86400 + h * 3600 + (i + 1) * 60 - 1) t) : ClearB b s (n * 86400 + h * 3600 + i * 60 - 1) t := fun u h1 h2 hf => by
  rcases Int.lt_or_le (n * 86400 + h * 3600 + (i + 1) * 60 - 1) u with q | q
  · exact hc u q h2 hf
  · have hk := hf.2.2.2.2
    unfold minOk at hk
    rw [show u % 86400 / 60 % 60 = i by omega, hh, Bool.false_and] at hk
    cases hk
theorem bk_found (h0 : 0 ≤ h ∧ h < 24) (hi : 0 ≤ i ∧ i < 60) (hn : 0 ≤ n ∧ n < 157054) (hd : dayOk b s n) (hh : Fld.has (b 1) h = true) (hq : Fld.has (b 0) i = true) (hm : n * 86400 + h * 3600 + i * 60 ≤ t) (hc : ClearB b s (n * 86400 + h * 3600 + (i + 1) * 60 - 1) t) :
    LastIs b s t (n * 86400 + h * 3600 + i * 60) := by
  refine ⟨⟨by omega, by omega, by omega, ?_, ?_⟩, hm, fun u h1 h2 hf => ?_⟩
  · rw [show (n * 86400 + h * 3600 + i * 60) / 86400 = n by omega]
    exact hd
  · unfold minOk
    rw [show (n * 86400 + h * 3600 + i * 60) % 86400 / 60 % 60 = i by omega, show (n * 86400 + h * 3600 + i * 60) % 86400 / 60 / 60 = h by omega, hh, hq]
    rfl
  · rcases Int.lt_or_le (n * 86400 + h * 3600 + (i + 1) * 60 - 1) u with q | q
    · exact hc u q h2 hf
    · have := hf.2.2.1
      omega
theorem bk_end (hc : ClearB b s (-1) t) : NoLast b s t := fun u hu hf => hc u (by have := hf.1; omega) hu hf
end Fire

set_option maxRecDepth 100000 in
set_option maxHeartbeats 4000000 in
theorem last_no (b : Nat → Nat) (s : Nat → Bool) (hb : ∀ k, k < 5 → b k < 2 ^ 64) (t r : Int) (hr : refusedOf (Cron.may b) [t] = r) (hr0 : r ≠ 0) (w : World) (hw : TabsOn w) :
    Calls Tryz.prog 17 #[xval b s, .int .i64 t] w fun e w' => e = .returned (Fire.told 0 r) ∧ Below w.heap.size w w' := by
  have h0 := OwnX.new w b s
  have hR := fun g W hW hg hc => refusal_any b s hb g 1 [t] (by simp) W hW hg hc
  rw [hr] at hR
  simp only [List.length_cons, List.length_nil, Nat.zero_add] at hR
  have HW := Lib.hid hw
  have H0 := Lib.hid h0
  have HR := Lib.hid hR
  have hne : (r == 0) = false := by simp [hr0]
  clear hR hb hr hw h0
  obtain ⟨x0, x1, x2, x3, x4, x5, x6, x7, x8, x9⟩ := xobj_cells H0.out.row
  unfold xval xcells at *
  go_enter Tryz.func17, Tryz.ntmps17
  go_wp2_with fail
  go_step3
  go_wp2_with fail
  have h1 := H0.out.below ((Below.refl _ _).alloc (Nat.le_refl _) (.cells #[.int .i64 t] 2))
  have H1 := Lib.hid h1
  clear H0 h1
  with_reducible refine (HR.out (w.heap.size + 1) _ (HW.out.next H1.out.bel) (row_one _ _ (by simp) t).1 (row_one _ _ (by simp) t).2).mono ?_
  rintro e w1 ⟨rfl, hb1⟩
  have H2 := Lib.hid (H1.out.below hb1)
  clear hb1 H1 HR x0 x1 x2 x3 x4 x5 x6 x7 x8 x9
  go_wp2_with fail
  rw [Exit.noGoto_ret]
  exact bodyPost_ret (v := Fire.told 0 r) (by simp [results, Tryz.results17, go_sem, Fire.told]) rfl ⟨rfl, H2.out.bel⟩

set_option maxRecDepth 100000 in
set_option maxHeartbeats 4000000 in
theorem last_yes (b : Nat → Nat) (s : Nat → Bool) (hb : ∀ k, k < 5 → b k < 2 ^ 64) (hm : Cron.may b = true) (t : Int) (ht : 0 ≤ t ∧ t < 13569465600) (w : World) (hw : World7 w) :
    Calls Tryz.prog 17 #[xval b s, .int .i64 t] w fun e w' => ∃ p : Int × Int, ((∃ r, p = (r, 0) ∧ Fire.LastIs b s t r) ∨ (p = (0, 5) ∧ Fire.NoLast b s t)) ∧ e = .returned (Fire.told p.1 p.2) ∧ Below w.heap.size w w' := by
  have h0 := OwnX.new w b s
  have hok : refusedOf (Cron.may b) [t] = 0 := by
    rcases @refused_one (Cron.may b) t with ⟨h, _⟩ | ⟨_, h, _⟩ | ⟨_, _, h⟩
    · rw [hm] at h; cases h
    · omega
    · exact h
  have hR := fun g W hW hg hc => refusal_any b s hb g 1 [t] (by simp) W hW hg hc
  rw [hok] at hR
  simp only [List.length_cons, List.length_nil, Nat.zero_add] at hR
  have hD := fun k hk W hW => days_any b s hb hm k hk W hW
  have hH1 := fun k hk W => has_any (b 1) (hb 1 (by decide)) (s 1) k W hk
  have hH0 := fun k hk W => has_any (b 0) (hb 0 (by decide)) (s 0) k W hk
  have HW := Lib.hid hw
  have H0 := Lib.hid h0
  have HR := Lib.hid hR
  have HD := Lib.hid hD
  have HH1 := Lib.hid hH1
  have HH0 := Lib.hid hH0
  have et : t.tdiv 86400 = t / 86400 := Int.tdiv_eq_ediv_of_nonneg ht.1
  clear hR hb hm hok hw h0 hD hH1 hH0
  obtain ⟨x0, x1, x2, x3, x4, x5, x6, x7, x8, x9⟩ := xobj_cells H0.out.row
  unfold xval xcells at *
  go_enter Tryz.func17, Tryz.ntmps17
  go_wp2_with fail
  go_step3
  go_wp2_with fail
  have h1 := H0.out.below ((Below.refl _ _).alloc (Nat.le_refl _) (.cells #[.int .i64 t] 2))
  have H1 := Lib.hid h1
  clear H0 h1
  with_reducible refine (HR.out (w.heap.size + 1) _ (HW.out.tabs.next H1.out.bel) (row_one _ _ (by simp) t).1 (row_one _ _ (by simp) t).2).mono ?_
  rintro e w1 ⟨rfl, hb1⟩
  have H2 := Lib.hid (H1.out.below hb1)
  clear hb1 H1 HR x0 x1 x2 x3 x4 x5 x6 x7 x8 x9
  go_wp2_with fail
  go_step3
  go_wp2_with fail
  go_loopg [7] (t / 86400 + 1).toNat (fun gk p wr => ∃ (n : Int), p = .int .i64 n ∧ n + 1 = gk ∧ n < 157054 ∧ Fire.ClearB b s ((n + 1) * 86400 - 1) t ∧ OwnX w w.heap.size b s wr)
  case atStart => exact ⟨t / 86400, by go_num, by omega, by omega, fun u h1 h2 => by omega, H2.out⟩
  case round =>
    obtain ⟨nd, rfl, hng, hn1, hcl, ho⟩ := hrel
    have HC := Lib.hid hcl
    have HO := Lib.hid ho
    obtain ⟨x0, x1, x2, x3, x4, x5, x6, x7, x8, x9⟩ := xobj_cells ho.row
    clear hcl ho H2
    by_cases hge : 0 ≤ nd
    · have g := decide_eq_true hge
      go_wp2_with fail
      go_step3
      go_wp2_with fail
      with_reducible refine (HD.out nd (by omega) _ (HW.out.next HO.out.bel)).mono ?_
      rintro e w2 ⟨⟨F, L, ok, hd, rfl⟩, hb2⟩
      have HO2 := Lib.hid (HO.out.below hb2)
      have HDY := Lib.hid hd
      have hin := hd.in_
      have hrg := hd.rng
      clear hb2 HO hd x0 x1 x2 x3 x4 x5 x6 x7 x8 x9
      obtain ⟨gd, hgd⟩ : ∃ gd, gd = gk := ⟨_, rfl⟩
      have hng' : nd + 1 = (gd : Int) := by rw [hgd]; exact hng
      cases ok
      · go_wp2_with fail
        rw [Exit.noGoto_exit]
        go_wp2_with fail
        go_roundg F.toNat
        case measure => omega
        case rel => exact ⟨F - 1, by go_num, by omega, by omega, by rw [Int.sub_add_cancel]; exact Fire.bk_day HDY.out HC.out, HO2.out⟩
      · go_wp2_with fail
        go_step3
        go_wp2_with fail
        clear hng
        go_loopg [11] 24 (fun gk p wr => ∃ (h : Int), p = .int .i64 h ∧ h + 1 = gk ∧ h < 24 ∧ Fire.ClearB b s (nd * 86400 + (h + 1) * 3600 - 1) t ∧ OwnX w w.heap.size b s wr)
        case atStart => exact ⟨23, rfl, by omega, by omega, by rw [show nd * 86400 + (23 + 1) * 3600 - 1 = (nd + 1) * 86400 - 1 by omega]; exact HC.out, HO2.out⟩
        case round =>
          clear HO2 HC
          obtain ⟨h, rfl, hgh, hh1, hcl, ho⟩ := hrel
          have HC := Lib.hid hcl
          have HO := Lib.hid ho
          obtain ⟨x0, x1, x2, x3, x4, x5, x6, x7, x8, x9⟩ := xobj_cells ho.row
          clear hcl ho
          by_cases hh0 : 0 ≤ h
          · have gl := decide_eq_true hh0
            go_wp2_with fail
            go_step3
            by_cases hp : t < nd * 86400 + h * 3600
            · have gp := decide_eq_true hp
              go_wp2_with fail
              rw [Exit.noGoto_exit]
              go_wp2_with fail
              go_roundg h.toNat
              case measure => omega
              case rel => exact ⟨h - 1, by go_num, by omega, by omega, by rw [Int.sub_add_cancel]; exact Fire.bk_late hp, HO.out⟩
            · have gp := decide_eq_false hp
              go_wp2_with fail
              with_reducible refine (HH1.out h (by omega) _).mono ?_
              rintro e w3 ⟨rfl, hb3⟩
              have HO3 := Lib.hid (HO.out.below hb3)
              clear hb3 HO x0 x1 x2 x3 x4 x5 x6 x7 x8 x9
              obtain ⟨gh, hgh2⟩ : ∃ gh, gh = gk := ⟨_, rfl⟩
              have hgh' : h + 1 = (gh : Int) := by rw [hgh2]; exact hgh
              generalize hhas : Fld.has (b 1) h = hv
              cases hv
              · have HHS := Lib.hid hhas
                clear hhas
                go_wp2_with fail
                rw [Exit.noGoto_exit]
                go_wp2_with fail
                go_roundg h.toNat
                case measure => omega
                case rel => exact ⟨h - 1, by go_num, by omega, by omega, by rw [Int.sub_add_cancel]; exact Fire.bk_hour (by omega) HHS.out HC.out, HO3.out⟩
              · have HHS := Lib.hid hhas
                clear hhas
                go_wp2_with fail
                go_step3
                go_wp2_with fail
                clear hgh
                go_loopg [13] 60 (fun gk p wr => ∃ (i : Int), p = .int .i64 i ∧ i + 1 = gk ∧ i < 60 ∧ Fire.ClearB b s (nd * 86400 + h * 3600 + (i + 1) * 60 - 1) t ∧ OwnX w w.heap.size b s wr)
                case atStart => exact ⟨59, rfl, by omega, by omega, by rw [show nd * 86400 + h * 3600 + (59 + 1) * 60 - 1 = nd * 86400 + (h + 1) * 3600 - 1 by omega]; exact HC.out, HO3.out⟩
                case round =>
                  clear HO3 HC
                  obtain ⟨i, rfl, hgi, hi1, hcl, ho⟩ := hrel
                  have HC := Lib.hid hcl
                  have HO := Lib.hid ho
                  obtain ⟨x0, x1, x2, x3, x4, x5, x6, x7, x8, x9⟩ := xobj_cells ho.row
                  clear hcl ho
                  by_cases hi0 : 0 ≤ i
                  · have gi := decide_eq_true hi0
                    by_cases hq : t < nd * 86400 + h * 3600 + i * 60
                    · have gq := decide_eq_true hq
                      go_wp2_with fail
                      go_roundg i.toNat
                      case measure => omega
                      case rel => exact ⟨i - 1, by go_num, by omega, by omega, by rw [Int.sub_add_cancel]; exact Fire.bk_late hq, HO.out⟩
                    · have gq := decide_eq_false hq
                      go_wp2_with fail
                      with_reducible refine (HH0.out i (by omega) _).mono ?_
                      rintro e w4 ⟨rfl, hb4⟩
                      have HO4 := Lib.hid (HO.out.below hb4)
                      clear hb4 HO x0 x1 x2 x3 x4 x5 x6 x7 x8 x9
                      generalize hhas : Fld.has (b 0) i = hv
                      cases hv
                      · have HHI := Lib.hid hhas
                        clear hhas
                        go_wp2_with fail
                        go_roundg i.toNat
                        case measure => omega
                        case rel => exact ⟨i - 1, by go_num, by omega, by omega, by rw [Int.sub_add_cancel]; exact Fire.bk_minute (by omega) HHI.out HC.out, HO4.out⟩
                      · have HHI := Lib.hid hhas
                        clear hhas
                        go_wp2_with fail
                        rw [Exit.noGoto_ret]
                        go_wp2_with fail
                        rw [Exit.noGoto_ret]
                        go_wp2_with fail
                        rw [Exit.noGoto_ret]
                        go_wp2_with fail
                        exact bodyPost_ret (v := Fire.told (nd * 86400 + h * 3600 + i * 60) 0) (by simp [results, Tryz.results17, go_sem, Fire.told]) rfl ⟨(nd * 86400 + h * 3600 + i * 60, 0), .inl ⟨_, rfl, Fire.bk_found (by omega) (by omega) (by omega) (HDY.out.yes rfl) HHS.out HHI.out (by omega) HC.out⟩, rfl, HO4.out.bel⟩
                  · have gi := decide_eq_false hi0
                    go_wp2_with fail
                    go_roundg (gh - 1)
                    case measure => omega
                    case rel => exact ⟨h - 1, by go_num, by omega, by omega, by
                      have c := HC.out
                      rw [show nd * 86400 + h * 3600 + (i + 1) * 60 - 1 = nd * 86400 + (h - 1 + 1) * 3600 - 1 by omega] at c
                      exact c, HO.out⟩
          · have gl := decide_eq_false hh0
            go_wp2_with fail
            go_roundg (gd - 1)
            case measure => omega
            case rel => exact ⟨nd - 1, by go_num, by omega, by omega, by
              have c := HC.out
              rw [show nd * 86400 + (h + 1) * 3600 - 1 = (nd - 1 + 1) * 86400 - 1 by omega] at c
              exact c, HO.out⟩
    · have g := decide_eq_false hge
      go_wp2_with fail
      refine bodyPost_ret (v := Fire.told 0 5) (by simp [results, Tryz.results17, go_sem, Fire.told]) rfl ⟨(0, 5), .inr ⟨rfl, Fire.bk_end ?_⟩, rfl, HO.out.bel⟩
      have c := HC.out
      rw [show (nd + 1) * 86400 - 1 = -1 by omega] at c
      exact c

theorem last_any (b : Nat → Nat) (s : Nat → Bool) (hb : ∀ k, k < 5 → b k < 2 ^ 64) (t : Int) (w : World) (hw : World7 w) :
    Calls Tryz.prog 17 #[xval b s, .int .i64 t] w fun e w' => ∃ p : Int × Int, Fire.LastT b s t p ∧ e = .returned (Fire.told p.1 p.2) ∧ Below w.heap.size w w' := by
  rcases @refused_one (Cron.may b) t with ⟨hm, h⟩ | ⟨hm, ht, h⟩ | ⟨hm, ht, _⟩
  · exact (last_no b s hb t 2 h (by decide) w hw.tabs).mono fun e w' ⟨h1, h2⟩ => ⟨(0, 2), lastT_bad hm, h1, h2⟩
  · exact (last_no b s hb t 50 h (by decide) w hw.tabs).mono fun e w' ⟨h1, h2⟩ => ⟨(0, 50), lastT_out hm ht, h1, h2⟩
  · exact (last_yes b s hb hm t ht w hw).mono fun e w' ⟨p, h1, h2, h3⟩ => ⟨p, lastT_in hm ht h1, h2, h3⟩
end Go.Proofs.YtoghalmjbbkjhaaGreatDoor
