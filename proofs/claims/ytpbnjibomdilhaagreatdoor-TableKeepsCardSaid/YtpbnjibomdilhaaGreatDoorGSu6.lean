/- slices.Sort at []uint64, last part: the sort itself, by its contract: the row is sorted. -/
import Derived.Test.YtpbnjibomdilhaaGreatDoorGSu3
import Derived.Test.YtpbnjibomdilhaaGreatDoorMaj
import Derived.Sort.Walk13
import Derived.Sort.AssemblyPlain
import Derived.Sort.LotD7
namespace Go.Proofs.YtpbnjibomdilhaaGreatDoor.Gph
open Go.RowKit Go.Sort

theorem Lies.one {w w' : World} {blk off : Nat} {d dk : Array Int} (h : ∃ n, Lies w blk off d n dk w') : ∃ m, w' = putRow encU (Sort.ahead w m) blk off dk := by
  obtain ⟨n, h⟩ := h
  exact ⟨n, h.eq⟩

section
variable {w wr : World} {blk off : Nat} {d dk : Array Int}
theorem at_cells (h : At encU w blk off dk wr) (hH : Holds encU w blk off d) (hs : dk.size = d.size) (hb : blk < w.heap.size) : ∃ G : Nat → Int, (∀ t, G t = dk[t]!) ∧ (∀ t, t < d.size → wr.cell? ⟨blk, off + t, none⟩ = some (.int .u64 (G t))) ∧ (∀ t, t < d.size → wr.frozen? ⟨blk, off + t, none⟩ = false) :=
  ⟨fun t => dk[t]!, fun _ => rfl, fun t ht => ((h.holds hH hs hb).1 t (by omega)).1, fun t ht => ((h.holds hH hs hb).1 t (by omega)).2⟩
end

theorem atTrans {w w1 w2 : World} {blk off : Nat} {d d' : Array Int} (h : At encU w blk off d w1) (k : At encU w1 blk off d' w2) (hb : blk < w.heap.size) (hs : d'.size = d.size) : At encU w blk off d' w2 := by
  obtain ⟨m, os, hk⟩ := k
  exact h.stepG hb hs ⟨m, os, hk⟩

set_option maxHeartbeats 12800000 in
set_option maxRecDepth 1000000 in
theorem pdq_u : ∀ (N blk off cap len a b limit : Nat) (d : Array Int) (w : World), b - a < N → d.size = len → Holds encU w blk off d → blk < w.heap.size → a ≤ b → b ≤ len → len < 4611686018427387904 → limit < 4611686018427387904 → Sort.Below ltInt a b d →
    Calls Tryz.prog 61 #[.slice (some ⟨blk, off, none⟩) len cap, .int .i64 a, .int .i64 b, .int .i64 limit] w fun e w' => e = .returned (.tuple #[]) ∧ At encU w blk off (pdq ltInt d a b limit true true) w' := by
  intro N
  induction N with
  | zero => intro _ _ _ _ _ _ _ _ _ h; exact absurd h (Nat.not_lt_zero _)
  | succ N ih =>
    intro blk off cap len a b limit d w hN hlen hH hblk hab hb hsz hlimit hBel0
    subst hlen
    have swo : SWO ltInt := swo_ltInt
    have HH := Lib.hid hH
    have HA0 := Lib.hid (At.refl hH)
    clear hH
    go_enter Tryz.func61, Tryz.ntmps61
    go_wp2
    go_loopg [1, 2, 3, 8, 9] (b - a) (fun k s1 s2 s3 s8 s9 wr => ∃ (a' b' lim : Nat) (wb wp : Bool) (dk : Array Int), s1 = .int .i64 a' ∧ s2 = .int .i64 b' ∧ s3 = .int .i64 lim ∧ s8 = .bool wb ∧ s9 = .bool wp ∧
      a' ≤ b' ∧ b' ≤ d.size ∧ b' - a' ≤ k ∧ k ≤ b - a ∧ lim ≤ limit ∧ dk.size = d.size ∧ Sort.Below ltInt a' b' dk ∧ At encU w blk off dk wr ∧ pdq ltInt dk a' b' lim wb wp = pdq ltInt d a b limit true true)
    case atStart => exact ⟨a, b, limit, true, true, d, rfl, rfl, rfl, rfl, rfl, hab, hb, Nat.le_refl _, Nat.le_refl _, Nat.le_refl _, rfl, hBel0, HA0.out, rfl⟩
    case round =>
      obtain ⟨a', b', lim, wb, wp, dk, rfl, rfl, rfl, rfl, rfl, hab', hb', hk, hkN, hlim, hds, hBel, hAt, heq⟩ := hrel
      obtain ⟨hHk, hblk'⟩ := hAt.holds HH.out hds hblk
      have HQ := Lib.hid heq
      have HA := Lib.hid hAt
      have HB := Lib.hid hBel
      clear heq hAt hBel
      by_cases h12 : b' - a' ≤ 12
      · have h12z : (b' : Int) - (a' : Int) ≤ 12 := by omega
        have HC := Lib.hid (insertion_u blk off cap d.size a' b' dk wr hds hHk hab' hb' hsz)
        clear hHk
        go_wp2_with (go_at_call 72; refine HC.out.mono ?_; rintro e w1 ⟨rfl, hw1⟩)
        (try simp only [Exit.inBlock, Exit.then]); refine bodyPost_ret (results_none rfl _ _ _) rfl ?_
        refine ⟨rfl, ?_⟩
        rw [← HQ.out, pdq_small h12]
        exact HA.out.step hblk (insertionSort_holds swo dk a' b' hab' (by omega)).1.1 (Lies.one hw1)
      · have h12z : ¬ ((b' : Int) - (a' : Int) ≤ 12) := by omega
        by_cases hl0 : lim = 0
        · subst hl0
          have HC := Lib.hid (heapSort_u blk off cap d.size a' b' dk wr hds hHk hab' hb' hsz)
          clear hHk
          go_wp2_with (go_at_call 73; refine HC.out.mono ?_; rintro e w1 ⟨rfl, hw1⟩)
          (try simp only [Exit.inBlock, Exit.then]); refine bodyPost_ret (results_none rfl _ _ _) rfl ?_
          refine ⟨rfl, ?_⟩
          rw [← HQ.out, pdq_heap h12 rfl]
          exact HA.out.step hblk (heapSort_holds swo dk a' b' hab' (by omega)).1.1 (Lies.one hw1)
        · have hl0z : ¬ ((lim : Int) = 0) := by omega
          obtain ⟨s1, B1, hc1, s2, B2, hpv, s3, B3⟩ := rd_facts (limit := lim) (wb := wb) (wp := wp) swo partialInsertionSort_holds reverseRange_holds (show a' < b' by omega) (show b' ≤ dk.size by omega) HB.out
          have hlr : (rd ltInt dk a' b' lim wb wp).lim ≤ lim := rd_lim_le
          obtain ⟨R, hR⟩ : ∃ R, R = rd ltInt dk a' b' lim wb wp := ⟨_, rfl⟩
          rw [← hR] at s1 B1 hc1 s2 B2 hpv s3 B3 hlr
          have HR := Lib.hid hR
          have HB3 := Lib.hid B3
          clear hR B1 B2 B3
          go_upto_if 35 with fail
          go_cut [3] from 19 (fun s3 wc => s3 = .int .i64 R.lim ∧ At encU w blk off R.d1 wc)
          case first =>
            cases wb
            · have HC := Lib.hid (patterns_u blk off cap d.size a' b' dk wr hds hHk hblk' hab' hb' hsz)
              clear hHk
              go_wp2_with (go_at_call 74; refine HC.out.mono ?_; rintro e w1 ⟨rfl, hw1⟩)
              go_meet
              case rel =>
                have e1 : R.d1 = breakPatterns dk a' b' := by rw [HR.out]; rfl
                have e2 : R.lim = lim - 1 := by rw [HR.out]; rfl
                rw [e1, e2]
                refine ⟨?_, HA.out.stepG hblk (e1 ▸ s1) hw1⟩
                congr 1
                omega
            · have e1 : R.d1 = dk := by rw [HR.out]; rfl
              have e2 : R.lim = lim := by rw [HR.out]; rfl
              go_wp2_with fail
              go_meet
              case rel =>
                rw [e1, e2]
                exact ⟨rfl, HA.out⟩
          case rest =>
            obtain ⟨rfl, hAt1⟩ := hcut
            obtain ⟨hH1, hblk1⟩ := hAt1.holds HH.out (s1.trans hds) hblk
            have HC := Lib.hid (pivot_u blk off cap d.size a' b' R.d1 wc (s1.trans hds) hH1 hblk1 (by omega) hb' hsz)
            rw [show choosePivot ltInt R.d1 a' b' = R.c by rw [HR.out]; rfl] at HC
            have HA1 := Lib.hid hAt1
            clear hAt1 hH1 hHk
            go_upto_if 50 with (go_at_call 75; refine HC.out.mono ?_; rintro e w2 ⟨rfl, hw2⟩)
            have hAt2 := HA1.out.same HH.out (s1.trans hds) hblk hw2
            obtain ⟨hH2, hblk2⟩ := hAt2.holds HH.out (s1.trans hds) hblk
            have HA2 := Lib.hid hAt2
            clear hAt2 HC
            go_cut [11, 12] from 19 (fun s11 s12 wc => s11 = .int .i64 R.pivot ∧ s12 = .int .i64 (hintCode R.hint) ∧ At encU w blk off R.d2 wc)
            case first =>
              by_cases hh : R.c.2 = .decreasing
              · have hcode : hintCode R.c.2 = 2 := by rw [hh]; rfl
                have hd := rd_dec (show (rd ltInt dk a' b' lim wb wp).c.2 = .decreasing by rw [← HR.out]; exact hh)
                rw [← HR.out] at hd
                obtain ⟨e2, epv, eht⟩ := hd
                have HC := Lib.hid (reverse_u blk off cap d.size a' b' R.d1 w2 (s1.trans hds) hH2 hab' hb' hsz)
                have HE := Lib.hid (And.intro e2 (And.intro epv eht))
                clear e2 epv eht
                go_wp2_with (go_at_call 76; refine HC.out.mono ?_; rintro e w3 ⟨rfl, hw3⟩)
                go_meet
                case rel =>
                  refine ⟨?_, by rw [HE.out.2.2]; rfl, by rw [HE.out.1]; exact HA2.out.step hblk (by rw [← HE.out.1, s2, s1]) (Lies.one hw3)⟩
                  rw [HE.out.2.1]
                  congr 1
                  omega
              · have hcode : ¬ (hintCode R.c.2 = 2) := fun h => hh (hintCode_two h)
                have hd := rd_not (show (rd ltInt dk a' b' lim wb wp).c.2 ≠ .decreasing by rw [← HR.out]; exact hh)
                rw [← HR.out] at hd
                obtain ⟨e2, epv, eht⟩ := hd
                have HE := Lib.hid (And.intro e2 (And.intro epv eht))
                clear e2 epv eht
                go_wp2_with fail
                go_meet
                case rel => exact ⟨by rw [HE.out.2.1], by rw [HE.out.2.2], by rw [HE.out.1]; exact HA2.out⟩
            case rest =>
              obtain ⟨rfl, rfl, hAt3⟩ := hcut
              obtain ⟨hH3, hblk3⟩ := hAt3.holds HH.out (s2.trans hds) hblk
              have HA3 := Lib.hid hAt3
              clear hAt3 hH2 HA2
              go_upto_region 15 with fail
              go_cut [12, 68] from 19 (fun s12 s68 wx => s12 = .int .i64 (hintCode R.hint) ∧ s68 = .bool (wb && wp && decide (R.hint = .increasing)) ∧ wx = wc)
              case first =>
                obtain ⟨ht, hht⟩ : ∃ ht, ht = R.hint := ⟨_, rfl⟩
                rw [← hht]
                have HT := Lib.hid hht
                clear hht
                cases wb <;> cases wp <;> cases ht <;>
                  (simp only [hintCode]
                   go_wp2_with fail
                   go_meet
                   exact ⟨by rw [← HT.out]; rfl, by rw [← HT.out]; rfl, rfl⟩)
              case rest =>
                obtain ⟨rfl, rfl, rfl⟩ := hcut
                go_upto_if 68 with fail
                go_cut [] from 19 (fun wx => R.pi.2 = false ∧ At encU w blk off R.pi.1 wx)
                case first =>
                  cases h68 : (wb && wp && decide (R.hint = .increasing))
                  · have epi := rd_pi_no (d := dk) (a := a') (b := b') (limit := lim) (wb := wb) (wp := wp) (lt := ltInt) (by rw [← HR.out]; exact h68)
                    rw [← HR.out] at epi
                    have HE := Lib.hid epi
                    clear epi
                    go_wp2_with fail
                    go_meet
                    case rel => exact ⟨by rw [HE.out], by rw [HE.out]; exact HA3.out⟩
                  · have epi := rd_pi_yes (d := dk) (a := a') (b := b') (limit := lim) (wb := wb) (wp := wp) (lt := ltInt) (by rw [← HR.out]; exact h68)
                    rw [← HR.out] at epi
                    have hc19 := partial_u blk off cap d.size a' b' R.d2 wc (s2.trans hds) hH3 (by omega) hb' hsz
                    rw [← epi] at hc19
                    have HC := Lib.hid hc19
                    clear epi hc19
                    obtain ⟨pa, pb, hpi⟩ : ∃ pa pb, R.pi = (pa, pb) := ⟨_, _, rfl⟩
                    rw [hpi] at HC s3
                    cases pb
                    · have HP := Lib.hid hpi
                      clear hpi
                      go_wp2_with (go_at_call 77; refine HC.out.mono ?_; rintro e w4 ⟨rfl, hw4⟩)
                      go_meet
                      exact ⟨by rw [HP.out], by rw [HP.out]; exact HA3.out.step hblk (by rw [s2]; exact s3) (Lies.one hw4)⟩
                    · have HP := Lib.hid hpi
                      clear hpi
                      go_wp2_with (go_at_call 77; refine HC.out.mono ?_; rintro e w4 ⟨rfl, hw4⟩)
                      (try simp only [Exit.inBlock, Exit.then]); refine bodyPost_ret (results_none rfl _ _ _) rfl ?_
                      refine ⟨rfl, ?_⟩
                      rw [← HQ.out, pdq_done h12 hl0 (by rw [← HR.out, HP.out]), ← HR.out, HP.out]
                      exact HA3.out.step hblk (by rw [s2]; exact s3) (Lies.one hw4)
                case rest =>
                  obtain ⟨hp2, hAt5⟩ := hcut
                  obtain ⟨d3, hd3⟩ : ∃ d3, d3 = R.pi.1 := ⟨_, rfl⟩
                  rw [← hd3] at hAt5 s3 HB3
                  obtain ⟨G, hG, hcw, hfw⟩ := at_cells hAt5 HH.out (s3.trans hds) hblk
                  have HG := Lib.hid hG
                  have HA5 := Lib.hid hAt5
                  have HP2 := Lib.hid hp2
                  have HD3 := Lib.hid hd3
                  clear hG hAt5 hp2 hd3 hH3 HA3
                  go_upto_region 17 with fail
                  go_cut [87] from 19 (fun s87 wx => s87 = .bool (decide (a' > 0) && !ltInt d3[a' - 1]! d3[R.pivot]!) ∧ At encU w blk off d3 wx)
                  case first =>
                    rcases Nat.eq_zero_or_pos a' with ha0 | ha0
                    · have ha0z : decide ((a' : Int) > 0) = false := decide_eq_false (by omega)
                      go_big_quiet (first | (go_at_call 78; refine Calls.quiet_of_same (less_u _ _ _)))
                      go_wp2_with fail
                      go_meet
                      case rel => exact ⟨by simp [ha0], HA5.out.ahead nq⟩
                    · have ha0z : (a' : Int) > 0 := by omega
                      go_big_quiet (first | (go_at_call 78; refine Calls.quiet_of_same (less_u _ _ _)))
                      go_wp2_with fail
                      go_meet
                      case rel => exact ⟨by rw [← HG.out, ← HG.out]; simp [ha0], HA5.out.ahead nq⟩
                  case rest =>
                    obtain ⟨rfl, hAt6⟩ := hcut
                    obtain ⟨hH6, hblk6⟩ := hAt6.holds HH.out (s3.trans hds) hblk
                    have HA6 := Lib.hid hAt6
                    clear hcw hfw hAt6
                    cases h87 : (decide (a' > 0) && !ltInt d3[a' - 1]! d3[R.pivot]!)
                    · obtain ⟨mid, ap, d4, hx⟩ : ∃ mid ap d4, partition ltInt d3 a' b' R.pivot = (mid, ap, d4) := ⟨_, _, _, rfl⟩
                      obtain ⟨r1, r2, r3, r4, r5, r6, r7⟩ := round_part swo (partition_holds _) hpv.1 hpv.2 (show b' ≤ d3.size by omega) HB3.out hx
                      have hc22 := part_u blk off cap d.size a' b' R.pivot d3 wc (s3.trans hds) hH6 hpv.1 hpv.2 hb' hsz
                      rw [hx] at hc22
                      have HC := Lib.hid hc22
                      have h87' : (decide (a' > 0) && !ltInt (rd ltInt dk a' b' lim wb wp).pi.1[a' - 1]! (rd ltInt dk a' b' lim wb wp).pi.1[(rd ltInt dk a' b' lim wb wp).pivot]!) = false := by rw [← HR.out, ← HD3.out]; exact h87
                      have hx' : partition ltInt (rd ltInt dk a' b' lim wb wp).pi.1 a' b' (rd ltInt dk a' b' lim wb wp).pivot = (mid, ap, d4) := by rw [← HR.out, ← HD3.out]; exact hx
                      have hp2' : (rd ltInt dk a' b' lim wb wp).pi.2 = false := by rw [← HR.out]; exact HP2.out
                      have HL := Lib.hid (fun (h4 : mid - a' < b' - mid) => pdq_left h12 hl0 hp2' h87' (by rw [hx']; exact ⟨r1, r2⟩) (by rw [hx']; exact h4))
                      have HRt := Lib.hid (fun (h4 : ¬ mid - a' < b' - mid) => pdq_right h12 hl0 hp2' h87' (by rw [hx']; exact ⟨r1, r2⟩) (by rw [hx']; exact h4))
                      rw [← HR.out] at HL HRt
                      rw [← HD3.out, hx] at HL HRt
                      dsimp only at HL HRt
                      have HR4 := Lib.hid r4
                      have HR5 := Lib.hid r5
                      have HR6 := Lib.hid r6
                      have HR7 := Lib.hid r7
                      clear hx hc22 h87' hx' hp2' r4 r5 r6 r7 hH6
                      go_upto_if 113 with (go_at_call 80; refine HC.out.mono ?_; rintro e w7 ⟨rfl, hw7⟩)
                      have hAt7 := HA6.out.step hblk r3 (Lies.one hw7)
                      obtain ⟨hH7, hblk7⟩ := hAt7.holds HH.out (r3.trans (s3.trans hds)) hblk
                      have HA7 := Lib.hid hAt7
                      clear hAt7 hw7 HC
                      by_cases h4 : mid - a' < b' - mid
                      · have h4z : (mid : Int) - (a' : Int) < (b' : Int) - (mid : Int) := by omega
                        have HI := Lib.hid (ih blk off cap d.size a' mid R.lim d4 w7 (by omega) (r3.trans (s3.trans hds)) hH7 hblk7 (by omega) (by omega) hsz (by omega) HR4.out)
                        obtain ⟨pL, sL⟩ := pdq_sorts _ swo d4 a' mid R.lim true true (by omega) (by omega) HR4.out
                        have HPL := Lib.hid (And.intro pL sL)
                        clear pL sL
                        go_wp2_with (go_at_call 61; refine HI.out.mono ?_; rintro e w8 ⟨rfl, hw8⟩)
                        go_roundg (b' - (mid + 1))
                        case measure => omega
                        case rel =>
                          refine ⟨mid + 1, b', R.lim, decide (mid - a' ≥ (b' - a') / 8), ap, pdq ltInt d4 a' mid R.lim true true, by simp, rfl, rfl, congrArg Value.bool (eighth (by omega) (by omega)), rfl, by omega, by omega, Nat.le_refl _, by omega, by omega, HPL.out.1.1.trans (r3.trans (s3.trans hds)), (HR6.out _ HPL.out.1 HPL.out.2).1, ?_, ?_⟩
                          · exact atTrans HA7.out hw8 hblk (HPL.out.1.1)
                          · rw [← HQ.out]; exact (HL.out h4).symm
                      · have h4z : ¬ ((mid : Int) - (a' : Int) < (b' : Int) - (mid : Int)) := by omega
                        have HI := Lib.hid (ih blk off cap d.size (mid + 1) b' R.lim d4 w7 (by omega) (r3.trans (s3.trans hds)) hH7 hblk7 (by omega) hb' hsz (by omega) HR5.out)
                        obtain ⟨pL, sL⟩ := pdq_sorts _ swo d4 (mid + 1) b' R.lim true true (by omega) (by omega) HR5.out
                        have HPL := Lib.hid (And.intro pL sL)
                        clear pL sL
                        go_wp2_with (go_at_call 61; refine HI.out.mono ?_; rintro e w8 ⟨rfl, hw8⟩)
                        go_roundg (mid - a')
                        case measure => omega
                        case rel =>
                          refine ⟨a', mid, R.lim, decide (b' - mid ≥ (b' - a') / 8), ap, pdq ltInt d4 (mid + 1) b' R.lim true true, rfl, rfl, rfl, congrArg Value.bool (eighth (by omega) (by omega)), rfl, by omega, by omega, Nat.le_refl _, by omega, by omega, HPL.out.1.1.trans (r3.trans (s3.trans hds)), (HR7.out _ HPL.out.1 HPL.out.2).1, ?_, ?_⟩
                          · exact atTrans HA7.out hw8 hblk (HPL.out.1.1)
                          · rw [← HQ.out]; exact (HRt.out h4).symm
                    · have h87' := h87
                      simp only [Bool.and_eq_true, decide_eq_true_eq, Bool.not_eq_true'] at h87'
                      obtain ⟨mid, d4, hx⟩ : ∃ mid d4, partitionEqual ltInt d3 a' b' R.pivot = (mid, d4) := ⟨_, _, rfl⟩
                      obtain ⟨r1, r2, r3, r4, _⟩ := round_eq swo (partitionEqual_holds _) h87'.1 hpv.1 hpv.2 (show b' ≤ d3.size by omega) HB3.out h87'.2 hx
                      have hc21 := partEqual_u blk off cap d.size a' b' R.pivot d3 wc (s3.trans hds) hH6 hpv.1 hpv.2 hb' hsz
                      rw [hx] at hc21
                      have HC := Lib.hid hc21
                      have h87'' : (decide (a' > 0) && !ltInt (rd ltInt dk a' b' lim wb wp).pi.1[a' - 1]! (rd ltInt dk a' b' lim wb wp).pi.1[(rd ltInt dk a' b' lim wb wp).pivot]!) = true := by rw [← HR.out, ← HD3.out]; exact h87
                      have hx' : partitionEqual ltInt (rd ltInt dk a' b' lim wb wp).pi.1 a' b' (rd ltInt dk a' b' lim wb wp).pivot = (mid, d4) := by rw [← HR.out, ← HD3.out]; exact hx
                      have hp2' : (rd ltInt dk a' b' lim wb wp).pi.2 = false := by rw [← HR.out]; exact HP2.out
                      have he := pdq_eq h12 hl0 hp2' h87'' (by rw [hx']; exact ⟨r1, r2⟩)
                      rw [← HR.out] at he
                      rw [← HD3.out, hx] at he
                      have HE := Lib.hid he
                      have HR4 := Lib.hid r4
                      clear hx hc21 h87'' hx' hp2' he r4 hH6 h87'
                      go_wp2_with (go_at_call 79; refine HC.out.mono ?_; rintro e w7 ⟨rfl, hw7⟩)
                      go_roundg (b' - mid)
                      case measure => omega
                      case rel =>
                        exact ⟨mid, b', R.lim, wb, wp, d4, rfl, rfl, rfl, rfl, rfl, r2, hb', Nat.le_refl _, by omega, by omega, r3.trans (s3.trans hds), HR4.out, HA6.out.step hblk r3 (Lies.one hw7), by rw [← HQ.out]; exact HE.out.symm⟩

end Go.Proofs.YtpbnjibomdilhaaGreatDoor.Gph
