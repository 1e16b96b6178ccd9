/- TokenRise: its walk. -/
import Derived.Test.YtjpbniajhkindaaRiseM
import Derived.IntWalk
namespace Go.Proofs.Ytjpbniajhkindaa
open Go.RowKit Go.Maps Go.Sort Dsk Tok

theorem bel_drewN {B : Nat} {a w : World} (h : Below B a w) (n : Nat) : Below B a (w.drewN n) := ⟨h.os, h.tape, h.output, h.size, h.block⟩

/-- a step that came in -/
structure OpV where
  kind : Int
  job : Nat
  token : Nat
  sa : Option Addr
  sc : Nat
  ss : List Int
  ba : Option Addr
  bl : Nat
  bc : Nat
/-- the steps that came in -/
structure OpsF (w : World) (a : Option Addr) (l : List OpV) : Prop where
  cell : ∀ i (h : i < l.length), ∃ b q, a = some ⟨b, q, none⟩ ∧ b < w.heap.size ∧ w.cell? ⟨b, q + i * 5, none⟩ = some (.int .i64 l[i].kind) ∧ w.cell? ⟨b, q + i * 5 + 1, none⟩ = some (.int .u64 (l[i].job : Int)) ∧ w.cell? ⟨b, q + i * 5 + 2, none⟩ = some (.int .u64 (l[i].token : Int)) ∧
    w.cell? ⟨b, q + i * 5 + 3, none⟩ = some (.slice l[i].sa l[i].ss.length l[i].sc) ∧ w.cell? ⟨b, q + i * 5 + 4, none⟩ = some (.slice l[i].ba l[i].bl l[i].bc)
  fit : ∀ o ∈ l, o.job < top64 ∧ o.token < top64 ∧ -9223372036854775808 ≤ o.kind ∧ o.kind ≤ 9223372036854775807
  stay : ∀ o ∈ l, (∀ k (h : k < o.ss.length), ∃ gs of, o.sa = some ⟨gs, of, none⟩ ∧ gs < w.heap.size ∧ w.cell? ⟨gs, of + k, none⟩ = some (.int .i64 o.ss[k])) ∧ ∀ x ∈ o.ss, -9223372036854775808 ≤ x ∧ x ≤ 9223372036854775807

/-- what stands at the loop's head -/
structure AtR (w1 w : World) (B g : Nat) (i k b : Nat) (f : Nat → Nat) (J T : List Nat) (vj vt : Value) : Prop where
  all : ∃ o rs, Tk w B g o rs k b f i ∧ rs.length ≤ i ∧ tops rs (fun _ => 0) = f ∧ NumRow w B o vj J ∧ NumRow w B o vt T
  mir : Mirror f J T
  len : J.length ≤ i
  apart : ∀ x, vj.ownBlock = some x → vt.ownBlock ≠ some x
  bel : Below w1.heap.size w1 w
  up : B ≤ b
  hB : w1.heap.size ≤ B

set_option maxRecDepth 100000 in
set_option maxHeartbeats 8000000 in
theorem rise_any (l : List OpV) (a : Option Addr) (cp : Nat) (w : World) (hl : OpsF w a l) :
    Calls Try.prog 3 #[.slice a l.length cp] w fun e w' => e = .returned (.bool true) ∧ Below w.heap.size w w' := by
  have HKN := Lib.hid (known12_any w)
  have HL := Lib.hid hl
  clear hl
  go_enter Try.func3, Try.ntmps3
  go_wp2_with fail
  refine HKN.out.mono ?_
  rintro e w1 ⟨rfl, hb1⟩
  have HB1 := Lib.hid hb1
  clear hb1 HKN
  by_cases c1 : 60 < l.length
  · have d1 : decide ((60 : Int) < (l.length : Int)) = true := by simp; omega
    go_wp2_with fail
    go_ret
    exact ⟨rfl, HB1.out⟩
  have d1 : decide ((60 : Int) < (l.length : Int)) = false := by simp; omega
  have HNEW := Lib.hid (new_tk w1)
  go_wp2_with fail
  refine HNEW.out.mono ?_
  rintro e w2 ⟨rfl, hb2, o2, hd2⟩
  have HO := Lib.hid (open_tk hd2 (by simp))
  have HB2 := Lib.hid hb2
  clear hb2 hd2 HNEW
  go_wp2_with fail
  refine HO.out.mono ?_
  rintro e w3 ⟨k0, b0, rfl, ht3, hb3, hk0, hb0⟩
  have hs2 := HB2.out.size
  have HAT0 := Lib.hid (show AtR w1 w3 w1.heap.size (w1.heap.size + 1) 0 k0 b0 (fun _ => 0) [] [] (.slice none 0 0) (.slice none 0 0) from
    ⟨⟨o2, [], ht3, Nat.zero_le _, rfl, NumRow.nil _ _ _, NumRow.nil _ _ _⟩, Mirror.start, Nat.zero_le _, (fun x e => by cases e), HB2.out.trans (hb3.mono hs2), by omega, Nat.le_refl _⟩)
  clear hb3 ht3 HO d1 hk0 hb0 hs2
  go_wp2_with fail
  go_loopw [4, 5, 6, 7, 8] (fun vb ve vj vt vi wr => ∃ (i k b : Nat) (f : Nat → Nat) (J T : List Nat), vb = .pointer (some ⟨k, 0, none⟩) ∧ ve = .int .i64 0 ∧ vi = .int .i64 i ∧ i ≤ l.length ∧ AtR w1 wr w1.heap.size (w1.heap.size + 1) i k b f J T vj vt) (fun _ _ _ _ vi _ => l.length - (intOf vi).toNat)
  case atStart => exact ⟨0, k0, b0, _, [], [], rfl, rfl, rfl, Nat.zero_le _, HAT0.out⟩
  case round =>
    clear HAT0
    obtain ⟨i, k, b, f, J, T, rfl, rfl, rfl, hi, hat⟩ := hrel
    by_cases hin : i < l.length
    · obtain ⟨ob, q, rfl, hblt, h0, h1, h2, h3, h4⟩ := HL.out.cell i hin
      obtain ⟨ov, hov⟩ : ∃ ov, ov = l[i] := ⟨_, rfl⟩
      have hom : ov ∈ l := by rw [hov]; exact List.getElem_mem hin
      rw [← hov] at h0 h1 h2 h3 h4
      obtain ⟨kind, job, tok, sa, sc, ss, ba, bl, bc⟩ := ov
      dsimp only at h0 h1 h2 h3 h4
      have hbw := HB1.out.trans (hat.bel.mono HB1.out.size)
      replace h0 := (hbw.cell (p := ⟨ob, q + i * 5, none⟩) hblt).trans h0
      replace h1 := (hbw.cell (p := ⟨ob, q + i * 5 + 1, none⟩) hblt).trans h1
      replace h2 := (hbw.cell (p := ⟨ob, q + i * 5 + 2, none⟩) hblt).trans h2
      replace h3 := (hbw.cell (p := ⟨ob, q + i * 5 + 3, none⟩) hblt).trans h3
      replace h4 := (hbw.cell (p := ⟨ob, q + i * 5 + 4, none⟩) hblt).trans h4
      have HOM := Lib.hid (And.intro (HL.out.fit _ hom) (HL.out.stay _ hom))
      clear hov hom hbw
      --WALK--
      obtain ⟨o, rs, htk, hrs, htp, hrj, hrt⟩ := hat.all
      obtain ⟨ja, jc, rfl, _⟩ := hrj.shape
      obtain ⟨ta, tc, rfl, _⟩ := hrt.shape
      obtain ⟨wA, hwA⟩ : ∃ wA, wA = wr.alloc (.cells #[.int .i64 kind, .int .u64 (job : Int), .int .u64 (tok : Int), .slice sa ss.length sc, .slice ba bl bc] 35) := ⟨_, rfl⟩
      have hal : Below wr.heap.size wr wA := by rw [hwA]; exact (Below.refl _ _).alloc (Nat.le_refl _) _
      have hob0 : wA.heap[wr.heap.size]? = some (.cells #[.int .i64 kind, .int .u64 (job : Int), .int .u64 (tok : Int), .slice sa ss.length sc, .slice ba bl bc] 35 (0, 0)) := by rw [hwA]; exact heap_alloc_new _ _
      obtain ⟨x, hx⟩ : ∃ x, x = wr.heap.size := ⟨_, rfl⟩
      rw [← hx] at hob0
      have HTK0 := Lib.hid (htk.below hal)
      have HRS0 := Lib.hid hrs
      have HTP0 := Lib.hid htp
      have HRJ0 := Lib.hid (hrj.below hal)
      have HRT0 := Lib.hid (hrt.below hal)
      have HMIR0 := Lib.hid hat.mir
      have HLEN0 := Lib.hid hat.len
      have HAP0 := Lib.hid hat.apart
      have HBEL0 := Lib.hid (hat.bel.trans (hal.mono hat.bel.size))
      have HUP0 := Lib.hid hat.up
      have HOB := Lib.hid hob0
      have hox : o x = none := by
        cases h' : o x with
        | none => rfl
        | some y => have h1 := (htk.owns x (by rw [h']; simp)).2; omega
      have hxb : x ≠ b := by have := htk.lt.2.2.1; omega
      have hjl : J.length ≤ 60 := by have := hat.len; omega
      have HTL := Lib.hid hat.mir.len
      have HWA := Lib.hid hwA
      have HX := Lib.hid hx
      clear hat htk hrs htp hrj hrt hwA hal hob0 hx HL
      have HOX := Lib.hid (And.intro hox hxb)
      have HOMF := Lib.hid HOM.out
      clear hox hxb
      by_cases c10 : 10 < ss.length
      · have d10 : decide ((10 : Int) < (ss.length : Int)) = true := by simp; omega
        go_wp2_with fail
        go_ret
        rw [← HWA.out]
        exact ⟨rfl, HB1.out.trans (HBEL0.out.mono HB1.out.size)⟩
      have d10 : decide ((10 : Int) < (ss.length : Int)) = false := by simp; omega
      by_cases hk1 : kind = 1
      · subst hk1
        have HTD := Lib.hid (tidy_tk HTK0.out (by omega))
        rw [HWA.out] at HTD
        go_wp2_with fail
        refine HTD.out.mono ?_
        rintro e w5 ⟨rfl, o5, K5, hK5, htk5, he5⟩
        rw [← HWA.out] at he5
        have hkl := HMIR0.out.count hK5
        have HTK := Lib.hid (htk5.mono (show i ≤ i + 1 by omega))
        have HRS := Lib.hid (show (tidied f K5).length ≤ i + 1 by simp [tidied]; have := HLEN0.out; omega)
        have HTP := Lib.hid (tidied_tops hK5)
        have HRJ := Lib.hid (HRJ0.out.eff he5 HTK0.out.isMap)
        have HRT := Lib.hid (HRT0.out.eff he5 HTK0.out.isMap)
        have HMIR := HMIR0
        have HLEN := Lib.hid (show J.length ≤ i + 1 by have := HLEN0.out; omega)
        have HAP := HAP0
        have HBEL := Lib.hid (HBEL0.out.trans (he5.below HBEL0.out.size HUP0.out (fun i' hi' => by
          cases h' : o i' with
          | none => rfl
          | some y => have h1 := (HTK0.out.owns i' (by rw [h']; simp)).1; omega)))
        have HUP := HUP0
        clear HTD htk5 he5 hK5 hkl HTK0 HRS0 HTP0 HRJ0 HRT0 HMIR0 HLEN0 HAP0 HBEL0 HUP0 HOB h0 h1 h2 h3 h4
        have HJ := Lib.hid (jobs_tk HTK.out (by omega))
        go_wp2_with fail
        refine HJ.out.mono ?_
        rintro e w8 ⟨vK, K, rfl, hK, hrow8, hb8⟩
        have hcount := HMIR.out.count hK
        obtain ⟨ka, kc, rfl, _⟩ := slice_shape hrow8
        rw [hcount]
        have HB8 := Lib.hid hb8
        clear hrow8 hb8 hK hcount HJ
        go_wp2_with fail
        go_loopw [14] (fun vk wq => ∃ m : Nat, vk = .int .i64 m ∧ m ≤ (J).length ∧ Below w5.heap.size w5 wq) (fun vk _ => (J).length - (intOf vk).toNat)
        case atStart => exact ⟨0, rfl, Nat.zero_le _, HB8.out⟩
        case round =>
          clear HB8
          obtain ⟨m, rfl, hm, hbq⟩ := hrel
          by_cases hml : m < (J).length
          · obtain ⟨a1, c1, e1, r1⟩ := (HRJ.out.below hbq).shape
            obtain ⟨a2, c2, e2, r2⟩ := (HRT.out.below hbq).shape
            cases e1
            cases e2
            have hml2 : m < (T).length := by rw [HMIR.out.len]; exact hml
            obtain ⟨g1, eg1, x1, _⟩ := r1 m hml
            cases eg1
            obtain ⟨g2, eg2, x2, _⟩ := r2 m hml2
            cases eg2
            have hft := HMIR.out.at_ m hml
            have hlen := HMIR.out.len
            have hjt : (J)[m] < top64 := by
              rcases Nat.lt_or_ge (J)[m] top64 with h' | h'
              · exact h'
              · have h1 := HTK.out.big (J)[m] (Nat.not_lt.2 h')
                have h2 := (HMIR.out.mem (J)[m]).1 (List.getElem_mem hml)
                omega
            have hto := fun n => top_tk (HTK.out.below (bel_drewN hbq n)) hjt
            rw [hft] at hto
            have HTO := Lib.hid hto
            clear hto
            obtain ⟨jm, hjm⟩ : ∃ jm, jm = (J)[m] := ⟨_, rfl⟩
            obtain ⟨tm, htm⟩ : ∃ tm, tm = (T)[m]'hml2 := ⟨_, rfl⟩
            rw [← hjm] at x1 HTO
            rw [← htm] at x2 HTO
            have HBQ := Lib.hid hbq
            clear r1 r2 hft hjt hjm htm hbq hlen
            go_wp2_with fail
            go_big_quiet (first | (go_at_call 12; refine Calls.quiet_of_same (HTO.out _)))
            go_wp2_with fail
            go_roundw
            case rel => exact ⟨m + 1, by go_num, by omega, bel_drewN HBQ.out nq⟩
            case measure => simp [intOf]; omega
          · obtain rfl : m = (J).length := by omega
            have HBQ := Lib.hid hbq
            clear hbq hml hm
            go_wp2_with fail
            go_roundw
            case rel => exact ⟨i + 1, k, b, f, J, T, rfl, rfl, by go_num, by omega, ⟨⟨o5, tidied f K5, HTK.out.below HBQ.out, HRS.out, HTP.out, HRJ.out.below HBQ.out, HRT.out.below HBQ.out⟩, HMIR.out, HLEN.out, HAP.out, HBEL.out.trans (HBQ.out.mono HBEL.out.size), HUP.out, Nat.le_refl _⟩⟩
            case measure => simp [intOf]; omega

      by_cases hk0 : kind = 0
      · subst hk0
        have hcell1 : ∀ W, Below wA.heap.size wA W → W.cell? ⟨x, 1, none⟩ = some (.int .u64 (job : Int)) := fun W hb => by
          rw [cell_of_row _ _ 1 _ _ _ ((hb.block _ (lt_of_block HOB.out)).trans HOB.out)]; rfl
        have HC1 := Lib.hid hcell1
        clear hcell1
        go_wp2_with fail
        rw [← HWA.out, ← HX.out]
        go_loopw [10, 11] (fun va vk wq => ∃ m : Nat, va = .int .i64 (pos J job m) ∧ vk = .int .i64 m ∧ m ≤ J.length ∧ Below wA.heap.size wA wq) (fun _ vk _ => J.length - (intOf vk).toNat)
        case atStart => exact ⟨0, by rw [pos_zero], rfl, Nat.zero_le _, Below.refl _ _⟩
        case round =>
          obtain ⟨m, rfl, rfl, hm, hbq⟩ := hrel
          have hpr := pos_range J job m
          by_cases hml : m < J.length
          · obtain ⟨a1, c1, e1, r1⟩ := (HRJ0.out.below hbq).shape
            cases e1
            obtain ⟨g1, rfl, x1, _⟩ := r1 m hml
            have x2 := HC1.out _ hbq
            obtain ⟨pm, hpm⟩ : ∃ pm, pm = pos J job m := ⟨_, rfl⟩
            rw [← hpm] at hpr ⊢
            have HPM := Lib.hid hpm
            have HBQ := Lib.hid hbq
            by_cases hjj : J[m] = job
            · have HPN := Lib.hid (show pos J job (m + 1) = m from by rw [← hjj]; exact pos_here HMIR0.out.nodup hml)
              have htest : (((J[m] : Nat) : Int) == (job : Int)) = true := by rw [hjj]; simp
              obtain ⟨jm, hjm⟩ : ∃ jm, jm = J[m] := ⟨_, rfl⟩
              rw [← hjm] at x1 htest
              clear r1 hpm hbq hjj hjm
              go_wp2_with fail
              go_region
              all_goals go_wp2
              go_roundw
              case rel => exact ⟨m + 1, by rw [HPN.out], by go_num, by omega, HBQ.out.drew⟩
              case measure => simp [intOf]; omega
            · have HPN := Lib.hid (show pos J job (m + 1) = pos J job m from pos_other hml hjj)
              have htest : (((J[m] : Nat) : Int) == (job : Int)) = false := by simp; omega
              obtain ⟨jm, hjm⟩ : ∃ jm, jm = J[m] := ⟨_, rfl⟩
              rw [← hjm] at x1 htest
              clear r1 hpm hbq hjj hjm
              go_wp2_with fail
              go_region
              all_goals go_wp2
              go_roundw
              case rel => exact ⟨m + 1, by rw [HPN.out, ← HPM.out], by go_num, by omega, HBQ.out.drew⟩
              case measure => simp [intOf]; omega
          · obtain rfl : m = J.length := by omega
            clear hml hm hpr
            have HBQ := Lib.hid hbq
            clear hbq
            have x1 := HC1.out _ HBQ.out
            have x2 : wr.cell? ⟨x, 2, none⟩ = some (.int .u64 (tok : Int)) := by
              rw [cell_of_row _ _ 2 _ _ _ ((HBQ.out.block _ (lt_of_block HOB.out)).trans HOB.out)]; rfl
            have hac := accept_tk (HTK0.out.below HBQ.out) (by have := HRS0.out; omega) (by omega) HOMF.out.1.1 HOMF.out.1.2.1
            skip
            rcases pos_all J job with ⟨hnm, hpa⟩ | ⟨at_, hat, hja, hpa⟩
            · have hf0 : f job = 0 := by have := mt (HMIR0.out.mem job).2 hnm; omega
              rw [hpa]
              by_cases ht0 : tok = 0
              · subst ht0
                rw [show accE f job 0 = 2 by simp [accE]] at hac
                have HAC := Lib.hid hac
                clear hac
                go_wp2_with fail
                refine HAC.out.mono ?_
                rintro e w5 ⟨rfl, o5, htk5, he5⟩
                clear HAC
                have y2 : w5.cell? ⟨x, 2, none⟩ = some (.int .u64 (0 : Int)) := by
                  have hxl := lt_of_block HOB.out
                  rw [cell_of_row _ _ 2 _ _ _ ((he5.block _ (Nat.lt_of_lt_of_le hxl HBQ.out.size) HOX.out.1 HOX.out.2).trans ((HBQ.out.block _ hxl).trans HOB.out))]; rfl
                have y1 : w5.cell? ⟨x, 1, none⟩ = some (.int .u64 (job : Int)) := by
                  have hxl := lt_of_block HOB.out
                  rw [cell_of_row _ _ 1 _ _ _ ((he5.block _ (Nat.lt_of_lt_of_le hxl HBQ.out.size) HOX.out.1 HOX.out.2).trans ((HBQ.out.block _ hxl).trans HOB.out))]; rfl
                have hx5 := (he5.block _ (Nat.lt_of_lt_of_le (lt_of_block HOB.out) HBQ.out.size) HOX.out.1 HOX.out.2).trans ((HBQ.out.block _ (lt_of_block HOB.out)).trans HOB.out)
                have HX5 := Lib.hid hx5
                clear hx5
                have hisb := (HTK0.out.below HBQ.out).isMap
                have HRJ5 := Lib.hid ((HRJ0.out.below HBQ.out).eff he5 hisb)
                have HRT5 := Lib.hid ((HRT0.out.below HBQ.out).eff he5 hisb)
                have HBEL4 := Lib.hid (HBEL0.out.trans (HBQ.out.mono HBEL0.out.size))
                have HBEL5 := Lib.hid (HBEL4.out.trans (he5.below HBEL4.out.size HUP0.out (fun i' hi' => by
                  cases h' : o i' with
                  | none => rfl
                  | some y => have h1 := (HTK0.out.owns i' (by rw [h']; simp)).1; omega)))
                have hsame : accF f job 0 = f ∧ accR f rs job 0 = rs := ⟨note_old f (by omega), by unfold accR; rw [if_neg (by omega)]⟩
                rw [hsame.1, hsame.2] at htk5
                have HTK5 := Lib.hid htk5
                clear htk5 he5 hisb hsame
                go_wp2_with fail
                go_region
                obtain ⟨w7, hw7⟩ : ∃ w7, w7 = w5.drew := ⟨_, rfl⟩
                have hb7 : Below w5.heap.size w5 w7 := by rw [hw7]; exact (Below.refl _ _).drew
                rw [← hw7]
                have y2 : w7.cell? ⟨x, 2, none⟩ = some (.int .u64 0) := by rw [hw7]; exact y2
                have y1 : w7.cell? ⟨x, 1, none⟩ = some (.int .u64 (job : Int)) := by rw [hw7]; exact y1
                have HX7 := Lib.hid ((hb7.block _ (lt_of_block HX5.out)).trans HX5.out)
                have HTK7 := Lib.hid (HTK5.out.below hb7)
                have HRJ7 := Lib.hid (HRJ5.out.below hb7)
                have HRT7 := Lib.hid (HRT5.out.below hb7)
                have HBEL7 := Lib.hid (HBEL5.out.trans (hb7.mono HBEL5.out.size))
                clear hb7 hw7 HTK5 HRJ5 HRT5 HBEL5 HBEL4
                have HTK := HTK7
                have HRS := Lib.hid (show rs.length ≤ i + 1 by have := HRS0.out; omega)
                have HTP := HTP0
                have HRJ := HRJ7
                have HRT := HRT7
                have HMIR := HMIR0
                have HLEN := Lib.hid (show J.length ≤ i + 1 by have := HLEN0.out; omega)
                have HAP := HAP0
                have HBEL := HBEL7
                have HUP := HUP0
                clear HTK7 HRJ7 HRT7 HBEL7 HTK0 HRS0 HTP0 HRJ0 HRT0 HLEN0 HAP0 HBEL0 HUP0 HOB HC1 HBQ x1 x2 h0 h1 h2 h3 h4
                have HJ := Lib.hid (jobs_tk HTK.out (by omega))
                go_wp2_with fail
                refine HJ.out.mono ?_
                rintro e w8 ⟨vK, K, rfl, hK, hrow8, hb8⟩
                have hcount := HMIR.out.count hK
                obtain ⟨ka, kc, rfl, _⟩ := slice_shape hrow8
                rw [hcount]
                have HB8 := Lib.hid hb8
                clear hrow8 hb8 hK hcount HJ
                go_wp2_with fail
                go_loopw [14] (fun vk wq => ∃ m : Nat, vk = .int .i64 m ∧ m ≤ (J).length ∧ Below w7.heap.size w7 wq) (fun vk _ => (J).length - (intOf vk).toNat)
                case atStart => exact ⟨0, rfl, Nat.zero_le _, HB8.out⟩
                case round =>
                  clear HB8
                  obtain ⟨m, rfl, hm, hbq⟩ := hrel
                  by_cases hml : m < (J).length
                  · obtain ⟨a1, c1, e1, r1⟩ := (HRJ.out.below hbq).shape
                    obtain ⟨a2, c2, e2, r2⟩ := (HRT.out.below hbq).shape
                    cases e1
                    cases e2
                    have hml2 : m < (T).length := by rw [HMIR.out.len]; exact hml
                    obtain ⟨g1, eg1, x1, _⟩ := r1 m hml
                    cases eg1
                    obtain ⟨g2, eg2, x2, _⟩ := r2 m hml2
                    cases eg2
                    have hft := HMIR.out.at_ m hml
                    have hlen := HMIR.out.len
                    have hjt : (J)[m] < top64 := by
                      rcases Nat.lt_or_ge (J)[m] top64 with h' | h'
                      · exact h'
                      · have h1 := HTK.out.big (J)[m] (Nat.not_lt.2 h')
                        have h2 := (HMIR.out.mem (J)[m]).1 (List.getElem_mem hml)
                        omega
                    have hto := fun n => top_tk (HTK.out.below (bel_drewN hbq n)) hjt
                    rw [hft] at hto
                    have HTO := Lib.hid hto
                    clear hto
                    obtain ⟨jm, hjm⟩ : ∃ jm, jm = (J)[m] := ⟨_, rfl⟩
                    obtain ⟨tm, htm⟩ : ∃ tm, tm = (T)[m]'hml2 := ⟨_, rfl⟩
                    rw [← hjm] at x1 HTO
                    rw [← htm] at x2 HTO
                    have HBQ := Lib.hid hbq
                    clear r1 r2 hft hjt hjm htm hbq hlen
                    go_wp2_with fail
                    go_big_quiet (first | (go_at_call 12; refine Calls.quiet_of_same (HTO.out _)))
                    go_wp2_with fail
                    go_roundw
                    case rel => exact ⟨m + 1, by go_num, by omega, bel_drewN HBQ.out nq⟩
                    case measure => simp [intOf]; omega
                  · obtain rfl : m = (J).length := by omega
                    have HBQ := Lib.hid hbq
                    clear hbq hml hm
                    go_wp2_with fail
                    go_roundw
                    case rel => exact ⟨i + 1, k, b, f, J, T, rfl, rfl, by go_num, by omega, ⟨⟨o5, rs, HTK.out.below HBQ.out, HRS.out, HTP.out, HRJ.out.below HBQ.out, HRT.out.below HBQ.out⟩, HMIR.out, HLEN.out, HAP.out, HBEL.out.trans (HBQ.out.mono HBEL.out.size), HUP.out, Nat.le_refl _⟩⟩
                    case measure => simp [intOf]; omega
              · have ht1 : f job < tok := by omega
                rw [show accE f job tok = 0 by simp [accE, ht0]; omega] at hac
                have HAC := Lib.hid hac
                clear hac
                go_wp2_with fail
                refine HAC.out.mono ?_
                rintro e w5 ⟨rfl, o5, htk5, he5⟩
                clear HAC
                have y2 : w5.cell? ⟨x, 2, none⟩ = some (.int .u64 (tok : Int)) := by
                  have hxl := lt_of_block HOB.out
                  rw [cell_of_row _ _ 2 _ _ _ ((he5.block _ (Nat.lt_of_lt_of_le hxl HBQ.out.size) HOX.out.1 HOX.out.2).trans ((HBQ.out.block _ hxl).trans HOB.out))]; rfl
                have y1 : w5.cell? ⟨x, 1, none⟩ = some (.int .u64 (job : Int)) := by
                  have hxl := lt_of_block HOB.out
                  rw [cell_of_row _ _ 1 _ _ _ ((he5.block _ (Nat.lt_of_lt_of_le hxl HBQ.out.size) HOX.out.1 HOX.out.2).trans ((HBQ.out.block _ hxl).trans HOB.out))]; rfl
                have hx5 := (he5.block _ (Nat.lt_of_lt_of_le (lt_of_block HOB.out) HBQ.out.size) HOX.out.1 HOX.out.2).trans ((HBQ.out.block _ (lt_of_block HOB.out)).trans HOB.out)
                have HX5 := Lib.hid hx5
                clear hx5
                have hisb := (HTK0.out.below HBQ.out).isMap
                have HRJ5 := Lib.hid ((HRJ0.out.below HBQ.out).eff he5 hisb)
                have HRT5 := Lib.hid ((HRT0.out.below HBQ.out).eff he5 hisb)
                have HBEL4 := Lib.hid (HBEL0.out.trans (HBQ.out.mono HBEL0.out.size))
                have HBEL5 := Lib.hid (HBEL4.out.trans (he5.below HBEL4.out.size HUP0.out (fun i' hi' => by
                  cases h' : o i' with
                  | none => rfl
                  | some y => have h1 := (HTK0.out.owns i' (by rw [h']; simp)).1; omega)))
                have hsame : accF f job tok = note f job tok ∧ accR f rs job tok = rs ++ [(job, tok)] := ⟨rfl, by unfold accR; rw [if_pos (by omega)]⟩
                have htp5 := accR_tops HTP0.out job tok
                rw [hsame.1, hsame.2] at htk5 htp5
                have HTP := Lib.hid htp5
                have HTK5 := Lib.hid htk5
                clear htk5 he5 hisb hsame htp5
                have z1 : decide ((0 : Int) < (tok : Int)) = true := by simp; omega
                have z2 : ((tok : Int) == 0) = false := by simp; omega
                go_wp2_with fail
                go_region
                obtain ⟨w7, hw7⟩ : ∃ w7, w7 = w5.drew := ⟨_, rfl⟩
                have hb7 : Below w5.heap.size w5 w7 := by rw [hw7]; exact (Below.refl _ _).drew
                rw [← hw7]
                have y2 : w7.cell? ⟨x, 2, none⟩ = some (.int .u64 (tok : Int)) := by rw [hw7]; exact y2
                have y1 : w7.cell? ⟨x, 1, none⟩ = some (.int .u64 (job : Int)) := by rw [hw7]; exact y1
                have HX7 := Lib.hid ((hb7.block _ (lt_of_block HX5.out)).trans HX5.out)
                have HTK7 := Lib.hid (HTK5.out.below hb7)
                have HRJ7 := Lib.hid (HRJ5.out.below hb7)
                have HRT7 := Lib.hid (HRT5.out.below hb7)
                have HBEL7 := Lib.hid (HBEL5.out.trans (hb7.mono HBEL5.out.size))
                clear hb7 hw7 HTK5 HRJ5 HRT5 HBEL5 HBEL4
                have hx7 : w7.heap[x]? = some (.cells #[.int .i64 0, .int .u64 (job : Int), .int .u64 (tok : Int), .slice sa ss.length sc, .slice ba bl bc] 35 (0, 0)) := HX7.out
                go_upto_region 32 with fail
                have hq : Q32 w1 w7 w1.heap.size (w1.heap.size + 1) o5 (rs ++ [(job, tok)]) k b (note f job tok) (i + 1) (.slice ja J.length jc) (.slice ta T.length tc) J T x #[.int .i64 0, .int .u64 (job : Int), .int .u64 (tok : Int), .slice sa ss.length sc, .slice ba bl bc] [] :=
                  ⟨HTK7.out, HRJ7.out, HRT7.out, HAP0.out, hx7, HBEL7.out, Nat.le_refl _, by simp⟩
                replace hq := hq.drew
                refine wp_region_held_drew (S := fun W => W.cell? ⟨x, 1, none⟩ = some (.int .u64 (job : Int)) ∧ W.cell? ⟨x, 2, none⟩ = some (.int .u64 (tok : Int))) (by kernel_rfl) ⟨hq.fields 1, hq.fields 2⟩ (fun hHeld => ?_)
                obtain ⟨u0, hu0⟩ : ∃ u, u = w7.drew := ⟨_, rfl⟩
                rw [← hu0] at hq hHeld ⊢
                have HQ := Lib.hid hq
                clear hq hu0 y1 y2 hx7
                refine wpAnyH_take (i := 0) (oi := ?_) (v := ?_) ?_ (by kernel_rfl) (by kernel_rfl) (by kernel_rfl) ?_ (Or.inl ⟨?_, ?_⟩) (by assumption) ?_
                rotate_left 2
                focus (simp only [List.getElem?_toArray, List.getElem?_cons_zero]; rfl)
                focus exact fun _ _ _ h => h
                focus rfl
                focus (intro W hS; (try dsimp only at hS); have q1 := hS.1; have q2 := hS.2; go_simp; (try with_reducible rfl))
                try simp only [Act.put]
                try simp only [List.setIfInBounds_toArray]
                try simp only [List.set_cons_succ]
                try simp only [List.set_cons_zero]
                refine wpAnyH_take (i := 1) (oi := ?_) (v := ?_) ?_ (by kernel_rfl) (by kernel_rfl) (by kernel_rfl) ?_ (Or.inl ⟨?_, ?_⟩) (by assumption) ?_
                rotate_left 2
                focus (simp only [List.getElem?_toArray, List.getElem?_cons_succ, List.getElem?_cons_zero]; rfl)
                focus exact fun _ _ _ h => h
                focus rfl
                focus (intro W hS; (try dsimp only at hS); have q1 := hS.1; have q2 := hS.2; go_simp; (try with_reducible rfl))
                try simp only [Act.put]
                try simp only [List.setIfInBounds_toArray]
                try simp only [List.set_cons_succ]
                try simp only [List.set_cons_zero]
                refine wpAnyH_take (i := 2) (oi := ?_) (v := ?_) ?_ (by kernel_rfl) (by kernel_rfl) (by kernel_rfl) ?_ (Or.inl ⟨?_, ?_⟩) (by assumption) ?_
                rotate_left 2
                focus (simp only [List.getElem?_toArray, List.getElem?_cons_succ, List.getElem?_cons_zero]; rfl)
                focus exact fun _ _ _ h => h
                focus rfl
                focus (intro W hS; (try dsimp only at hS); have q1 := hS.1; have q2 := hS.2; go_simp; (try with_reducible rfl))
                try simp only [Act.put]
                try simp only [List.setIfInBounds_toArray]
                try simp only [List.set_cons_succ]
                try simp only [List.set_cons_zero]
                refine wpAnyH_take (i := 5) (oi := ?_) (v := ?_) ?_ (by kernel_rfl) (by kernel_rfl) (by kernel_rfl) ?_ (Or.inl ⟨?_, ?_⟩) (by assumption) ?_
                rotate_left 2
                focus (simp only [List.getElem?_toArray, List.getElem?_cons_succ, List.getElem?_cons_zero]; rfl)
                focus exact fun _ _ _ h => h
                focus rfl
                focus (intro W hS; (try dsimp only at hS); have q1 := hS.1; have q2 := hS.2; go_simp; (try with_reducible rfl))
                try simp only [Act.put]
                try simp only [List.setIfInBounds_toArray]
                try simp only [List.set_cons_succ]
                try simp only [List.set_cons_zero]
                refine wpAnyH_take (i := 6) (oi := ?_) (v := ?_) ?_ (by kernel_rfl) (by kernel_rfl) (by kernel_rfl) ?_ (Or.inl ⟨?_, ?_⟩) (by assumption) ?_
                rotate_left 2
                focus (simp only [List.getElem?_toArray, List.getElem?_cons_succ, List.getElem?_cons_zero]; rfl)
                focus exact fun _ _ _ h => h
                focus rfl
                focus (intro W hS; (try dsimp only at hS); have q1 := hS.1; have q2 := hS.2; go_simp; (try with_reducible rfl))
                try simp only [Act.put]
                try simp only [List.setIfInBounds_toArray]
                try simp only [List.set_cons_succ]
                try simp only [List.set_cons_zero]
                refine wpAnyH_take (i := 7) (oi := ?_) (v := ?_) ?_ (by kernel_rfl) (by kernel_rfl) (by kernel_rfl) ?_ (Or.inl ⟨?_, ?_⟩) (by assumption) ?_
                rotate_left 2
                focus (simp only [List.getElem?_toArray, List.getElem?_cons_succ, List.getElem?_cons_zero]; rfl)
                focus exact fun _ _ _ h => h
                focus rfl
                focus (intro W hS; (try dsimp only at hS); have q1 := hS.1; have q2 := hS.2; go_simp; (try with_reducible rfl))
                try simp only [Act.put]
                try simp only [List.setIfInBounds_toArray]
                try simp only [List.set_cons_succ]
                try simp only [List.set_cons_zero]
                refine wpAnyH_ready (rs := [3, 8]) (by kernel_rfl) (by simp) ?_
                refine AllReadyH.cons (o := ?_) ?_ (fun K hK => ?_) ?_
                rotate_left
                focus (simp only [List.getElem?_toArray, List.getElem?_cons_succ, List.getElem?_cons_zero]; rfl)
                · rw [if_pos (by rfl)]
                  go_simp
                  have hq := HQ.out.made job
                  obtain ⟨sj, hsj⟩ : ∃ s, s = u0.heap.size := ⟨_, rfl⟩
                  obtain ⟨u1, hu1⟩ : ∃ u, u = u0.alloc (.cells #[.int .u64 (job : Int)] 31) := ⟨_, rfl⟩
                  rw [← hu1] at hq ⊢
                  rw [← hsj] at hq ⊢
                  clear hsj hu1 HQ
                  have HQ := Lib.hid hq
                  clear hq
                  refine hK.out _ _ ⟨HQ.out.fields 1, HQ.out.fields 2⟩ (fun hHeld => ?_)
                  clear hK K
                  try simp only [Act.put]
                  try simp only [List.setIfInBounds_toArray]
                  try simp only [List.set_cons_succ]
                  try simp only [List.set_cons_zero]
                  refine wpAnyH_ready (rs := [4, 8]) (by kernel_rfl) (by simp) ?_
                  refine AllReadyH.cons (o := ?_) ?_ (fun K hK => ?_) ?_
                  rotate_left
                  focus (simp only [List.getElem?_toArray, List.getElem?_cons_succ, List.getElem?_cons_zero]; rfl)
                  · rw [if_pos (by rfl)]
                    obtain ⟨vj2, u2, hrun, hq⟩ := HQ.out.app1 (s := sj) (j := job) (by simp) (by have := HLEN0.out; have := HTL.out; omega)
                    refine wp_append_runU rfl rfl rfl hrun ?_
                    clear hrun HQ
                    have HQ := Lib.hid hq
                    clear hq
                    refine hK.out _ _ ⟨HQ.out.fields 1, HQ.out.fields 2⟩ (fun hHeld => ?_)
                    clear hK K
                    try simp only [Act.put]
                    try simp only [List.setIfInBounds_toArray]
                    try simp only [List.set_cons_succ]
                    try simp only [List.set_cons_zero]
                    refine wpAnyH_ready (rs := [8]) (by kernel_rfl) (by simp) ?_
                    refine AllReadyH.cons (o := ?_) ?_ (fun K hK => ?_) AllReadyH.nil
                    rotate_left
                    focus (simp only [List.getElem?_toArray, List.getElem?_cons_succ, List.getElem?_cons_zero]; rfl)
                    rw [if_pos (by rfl)]
                    go_simp
                    have hq := HQ.out.made tok
                    obtain ⟨st, hst⟩ : ∃ s, s = u2.heap.size := ⟨_, rfl⟩
                    obtain ⟨u3, hu3⟩ : ∃ u, u = u2.alloc (.cells #[.int .u64 (tok : Int)] 31) := ⟨_, rfl⟩
                    rw [← hu3] at hq ⊢
                    rw [← hst] at hq ⊢
                    clear hst hu3 HQ
                    have HQ := Lib.hid hq
                    clear hq
                    refine hK.out _ _ ⟨HQ.out.fields 1, HQ.out.fields 2⟩ (fun hHeld => ?_)
                    clear hK K
                    try simp only [Act.put]
                    try simp only [List.setIfInBounds_toArray]
                    try simp only [List.set_cons_succ]
                    try simp only [List.set_cons_zero]
                    refine wpAnyH_ready (rs := [9]) (by kernel_rfl) (by simp) ?_
                    refine AllReadyH.cons (o := ?_) ?_ (fun K hK => ?_) AllReadyH.nil
                    rotate_left
                    focus (simp only [List.getElem?_toArray, List.getElem?_cons_succ, List.getElem?_cons_zero]; rfl)
                    rw [if_pos (by rfl)]
                    obtain ⟨vt2, u4, hrun, hq⟩ := HQ.out.app2 (s := st) (t := tok) (by simp) (by have := HLEN0.out; have := HTL.out; omega)
                    refine wp_append_runU rfl rfl rfl hrun ?_
                    clear hrun HQ
                    have HQ := Lib.hid hq
                    clear hq
                    refine hK.out _ _ ⟨HQ.out.fields 1, HQ.out.fields 2⟩ (fun hHeld => ?_)
                    clear hK K
                    try simp only [Act.put]
                    try simp only [List.setIfInBounds_toArray]
                    try simp only [List.set_cons_succ]
                    try simp only [List.set_cons_zero]
                    refine wpAnyH_take (i := 10) (oi := ?_) (v := ?_) ?_ (by kernel_rfl) (by kernel_rfl) (by kernel_rfl) ?_ (Or.inl ⟨?_, ?_⟩) (by assumption) ?_
                    rotate_left 2
                    focus (simp only [List.getElem?_toArray, List.getElem?_cons_succ, List.getElem?_cons_zero]; rfl)
                    focus exact fun _ _ _ h => h
                    focus rfl
                    focus (intro W hS; (try dsimp only at hS); have q1 := hS.1; have q2 := hS.2; go_simp; (try with_reducible rfl))
                    try simp only [Act.put]
                    try simp only [List.setIfInBounds_toArray]
                    try simp only [List.set_cons_succ]
                    try simp only [List.set_cons_zero]
                    refine wpAnyH_take (i := 11) (oi := ?_) (v := ?_) ?_ (by kernel_rfl) (by kernel_rfl) (by kernel_rfl) ?_ (Or.inl ⟨?_, ?_⟩) (by assumption) ?_
                    rotate_left 2
                    focus (simp only [List.getElem?_toArray, List.getElem?_cons_succ, List.getElem?_cons_zero]; rfl)
                    focus exact fun _ _ _ h => h
                    focus rfl
                    focus (intro W hS; (try dsimp only at hS); have q1 := hS.1; have q2 := hS.2; go_simp; (try with_reducible rfl))
                    try simp only [Act.put]
                    try simp only [List.setIfInBounds_toArray]
                    try simp only [List.set_cons_succ]
                    try simp only [List.set_cons_zero]
                    refine wpAnyH_done (by kernel_rfl) ?_ _
                    have htk9 := HQ.out.tk
                    have hrj9 := HQ.out.rj
                    have hrt9 := HQ.out.rt
                    have hap9 := HQ.out.apart
                    have hbel9 := HQ.out.bel
                    have hmir9 := HMIR0.out.more hnm (show 0 < tok by omega)
                    obtain ⟨J2, hJ2⟩ : ∃ J2, J2 = J ++ [job] := ⟨_, rfl⟩
                    obtain ⟨T2, hT2⟩ : ∃ T2, T2 = T ++ [tok] := ⟨_, rfl⟩
                    have hl9 : J2.length ≤ i + 1 := by rw [hJ2]; simp; exact HLEN0.out
                    have hjl2 : J2.length ≤ 61 := by omega
                    rw [← hJ2] at hrj9 hmir9
                    rw [← hT2] at hrt9 hmir9
                    obtain ⟨jb, jd, rfl, _⟩ := hrj9.shape
                    obtain ⟨tb, td, rfl, _⟩ := hrt9.shape
                    have HTK := Lib.hid htk9
                    have HRS := Lib.hid (show (rs ++ [(job, tok)]).length ≤ i + 1 by simp; exact HRS0.out)
                    have HRJ := Lib.hid hrj9
                    have HRT := Lib.hid hrt9
                    have HMIR := Lib.hid hmir9
                    have HLEN := Lib.hid hl9
                    have HAP := Lib.hid hap9
                    have HBEL := Lib.hid hbel9
                    have HUP := HUP0
                    clear htk9 hrj9 hrt9 hap9 hbel9 hmir9 hJ2 hT2 hl9 HQ HTK7 HRJ7 HRT7 HBEL7 HTK0 HRS0 HTP0 HRJ0 HRT0 HLEN0 HAP0 HBEL0 HUP0 HOB HC1 HBQ x1 x2 h0 h1 h2 h3 h4
                    try clear hHeld
                    have HJ := Lib.hid (jobs_tk HTK.out (by omega))
                    go_wp2_with fail
                    refine HJ.out.mono ?_
                    rintro e w8 ⟨vK, K, rfl, hK, hrow8, hb8⟩
                    have hcount := HMIR.out.count hK
                    obtain ⟨ka, kc, rfl, _⟩ := slice_shape hrow8
                    rw [hcount]
                    have HB8 := Lib.hid hb8
                    clear hrow8 hb8 hK hcount HJ
                    go_wp2_with fail
                    go_loopw [14] (fun vk wq => ∃ m : Nat, vk = .int .i64 m ∧ m ≤ (J2).length ∧ Below u4.heap.size u4 wq) (fun vk _ => (J2).length - (intOf vk).toNat)
                    case atStart => exact ⟨0, rfl, Nat.zero_le _, HB8.out⟩
                    case round =>
                      clear HB8
                      obtain ⟨m, rfl, hm, hbq⟩ := hrel
                      by_cases hml : m < (J2).length
                      · obtain ⟨a1, c1, e1, r1⟩ := (HRJ.out.below hbq).shape
                        obtain ⟨a2, c2, e2, r2⟩ := (HRT.out.below hbq).shape
                        cases e1
                        cases e2
                        have hml2 : m < (T2).length := by rw [HMIR.out.len]; exact hml
                        obtain ⟨g1, eg1, x1, _⟩ := r1 m hml
                        cases eg1
                        obtain ⟨g2, eg2, x2, _⟩ := r2 m hml2
                        cases eg2
                        have hft := HMIR.out.at_ m hml
                        have hlen := HMIR.out.len
                        have hjt : (J2)[m] < top64 := by
                          rcases Nat.lt_or_ge (J2)[m] top64 with h' | h'
                          · exact h'
                          · have h1 := HTK.out.big (J2)[m] (Nat.not_lt.2 h')
                            have h2 := (HMIR.out.mem (J2)[m]).1 (List.getElem_mem hml)
                            omega
                        have hto := fun n => top_tk (HTK.out.below (bel_drewN hbq n)) hjt
                        rw [hft] at hto
                        have HTO := Lib.hid hto
                        clear hto
                        obtain ⟨jm, hjm⟩ : ∃ jm, jm = (J2)[m] := ⟨_, rfl⟩
                        obtain ⟨tm, htm⟩ : ∃ tm, tm = (T2)[m]'hml2 := ⟨_, rfl⟩
                        rw [← hjm] at x1 HTO
                        rw [← htm] at x2 HTO
                        have HBQ := Lib.hid hbq
                        clear r1 r2 hft hjt hjm htm hbq hlen
                        go_wp2_with fail
                        go_big_quiet (first | (go_at_call 12; refine Calls.quiet_of_same (HTO.out _)))
                        go_wp2_with fail
                        go_roundw
                        case rel => exact ⟨m + 1, by go_num, by omega, bel_drewN HBQ.out nq⟩
                        case measure => simp [intOf]; omega
                      · obtain rfl : m = (J2).length := by omega
                        have HBQ := Lib.hid hbq
                        clear hbq hml hm
                        go_wp2_with fail
                        go_roundw
                        case rel => exact ⟨i + 1, k, b, note f job tok, J2, T2, rfl, rfl, by go_num, by omega, ⟨⟨o5, rs ++ [(job, tok)], HTK.out.below HBQ.out, HRS.out, HTP.out, HRJ.out.below HBQ.out, HRT.out.below HBQ.out⟩, HMIR.out, HLEN.out, HAP.out, HBEL.out.trans (HBQ.out.mono HBEL.out.size), HUP.out, Nat.le_refl _⟩⟩
                        case measure => simp [intOf]; omega
                  refine AllReadyH.cons (o := ?_) ?_ (fun K hK => ?_) AllReadyH.nil
                  rotate_left
                  focus (simp only [List.getElem?_toArray, List.getElem?_cons_succ, List.getElem?_cons_zero]; rfl)
                  rw [if_pos (by rfl)]
                  go_simp
                  have hq := HQ.out.made tok
                  obtain ⟨st, hst⟩ : ∃ s, s = u1.heap.size := ⟨_, rfl⟩
                  obtain ⟨u2, hu2⟩ : ∃ u, u = u1.alloc (.cells #[.int .u64 (tok : Int)] 31) := ⟨_, rfl⟩
                  rw [← hu2] at hq ⊢
                  rw [← hst] at hq ⊢
                  clear hst hu2 HQ
                  have HQ := Lib.hid hq
                  clear hq
                  refine hK.out _ _ ⟨HQ.out.fields 1, HQ.out.fields 2⟩ (fun hHeld => ?_)
                  clear hK K
                  try simp only [Act.put]
                  try simp only [List.setIfInBounds_toArray]
                  try simp only [List.set_cons_succ]
                  try simp only [List.set_cons_zero]
                  refine wpAnyH_ready (rs := [4]) (by kernel_rfl) (by simp) ?_
                  refine AllReadyH.cons (o := ?_) ?_ (fun K hK => ?_) AllReadyH.nil
                  rotate_left
                  focus (simp only [List.getElem?_toArray, List.getElem?_cons_succ, List.getElem?_cons_zero]; rfl)
                  rw [if_pos (by rfl)]
                  obtain ⟨vj2, u3, hrun, hq⟩ := HQ.out.app1 (s := sj) (j := job) (by simp) (by have := HLEN0.out; have := HTL.out; omega)
                  refine wp_append_runU rfl rfl rfl hrun ?_
                  clear hrun HQ
                  have HQ := Lib.hid hq
                  clear hq
                  refine hK.out _ _ ⟨HQ.out.fields 1, HQ.out.fields 2⟩ (fun hHeld => ?_)
                  clear hK K
                  try simp only [Act.put]
                  try simp only [List.setIfInBounds_toArray]
                  try simp only [List.set_cons_succ]
                  try simp only [List.set_cons_zero]
                  refine wpAnyH_ready (rs := [9]) (by kernel_rfl) (by simp) ?_
                  refine AllReadyH.cons (o := ?_) ?_ (fun K hK => ?_) AllReadyH.nil
                  rotate_left
                  focus (simp only [List.getElem?_toArray, List.getElem?_cons_succ, List.getElem?_cons_zero]; rfl)
                  rw [if_pos (by rfl)]
                  obtain ⟨vt2, u4, hrun, hq⟩ := HQ.out.app2 (s := st) (t := tok) (by simp) (by have := HLEN0.out; have := HTL.out; omega)
                  refine wp_append_runU rfl rfl rfl hrun ?_
                  clear hrun HQ
                  have HQ := Lib.hid hq
                  clear hq
                  refine hK.out _ _ ⟨HQ.out.fields 1, HQ.out.fields 2⟩ (fun hHeld => ?_)
                  clear hK K
                  try simp only [Act.put]
                  try simp only [List.setIfInBounds_toArray]
                  try simp only [List.set_cons_succ]
                  try simp only [List.set_cons_zero]
                  refine wpAnyH_take (i := 10) (oi := ?_) (v := ?_) ?_ (by kernel_rfl) (by kernel_rfl) (by kernel_rfl) ?_ (Or.inl ⟨?_, ?_⟩) (by assumption) ?_
                  rotate_left 2
                  focus (simp only [List.getElem?_toArray, List.getElem?_cons_succ, List.getElem?_cons_zero]; rfl)
                  focus exact fun _ _ _ h => h
                  focus rfl
                  focus (intro W hS; (try dsimp only at hS); have q1 := hS.1; have q2 := hS.2; go_simp; (try with_reducible rfl))
                  try simp only [Act.put]
                  try simp only [List.setIfInBounds_toArray]
                  try simp only [List.set_cons_succ]
                  try simp only [List.set_cons_zero]
                  refine wpAnyH_take (i := 11) (oi := ?_) (v := ?_) ?_ (by kernel_rfl) (by kernel_rfl) (by kernel_rfl) ?_ (Or.inl ⟨?_, ?_⟩) (by assumption) ?_
                  rotate_left 2
                  focus (simp only [List.getElem?_toArray, List.getElem?_cons_succ, List.getElem?_cons_zero]; rfl)
                  focus exact fun _ _ _ h => h
                  focus rfl
                  focus (intro W hS; (try dsimp only at hS); have q1 := hS.1; have q2 := hS.2; go_simp; (try with_reducible rfl))
                  try simp only [Act.put]
                  try simp only [List.setIfInBounds_toArray]
                  try simp only [List.set_cons_succ]
                  try simp only [List.set_cons_zero]
                  refine wpAnyH_done (by kernel_rfl) ?_ _
                  have htk9 := HQ.out.tk
                  have hrj9 := HQ.out.rj
                  have hrt9 := HQ.out.rt
                  have hap9 := HQ.out.apart
                  have hbel9 := HQ.out.bel
                  have hmir9 := HMIR0.out.more hnm (show 0 < tok by omega)
                  obtain ⟨J2, hJ2⟩ : ∃ J2, J2 = J ++ [job] := ⟨_, rfl⟩
                  obtain ⟨T2, hT2⟩ : ∃ T2, T2 = T ++ [tok] := ⟨_, rfl⟩
                  have hl9 : J2.length ≤ i + 1 := by rw [hJ2]; simp; exact HLEN0.out
                  have hjl2 : J2.length ≤ 61 := by omega
                  rw [← hJ2] at hrj9 hmir9
                  rw [← hT2] at hrt9 hmir9
                  obtain ⟨jb, jd, rfl, _⟩ := hrj9.shape
                  obtain ⟨tb, td, rfl, _⟩ := hrt9.shape
                  have HTK := Lib.hid htk9
                  have HRS := Lib.hid (show (rs ++ [(job, tok)]).length ≤ i + 1 by simp; exact HRS0.out)
                  have HRJ := Lib.hid hrj9
                  have HRT := Lib.hid hrt9
                  have HMIR := Lib.hid hmir9
                  have HLEN := Lib.hid hl9
                  have HAP := Lib.hid hap9
                  have HBEL := Lib.hid hbel9
                  have HUP := HUP0
                  clear htk9 hrj9 hrt9 hap9 hbel9 hmir9 hJ2 hT2 hl9 HQ HTK7 HRJ7 HRT7 HBEL7 HTK0 HRS0 HTP0 HRJ0 HRT0 HLEN0 HAP0 HBEL0 HUP0 HOB HC1 HBQ x1 x2 h0 h1 h2 h3 h4
                  try clear hHeld
                  have HJ := Lib.hid (jobs_tk HTK.out (by omega))
                  go_wp2_with fail
                  refine HJ.out.mono ?_
                  rintro e w8 ⟨vK, K, rfl, hK, hrow8, hb8⟩
                  have hcount := HMIR.out.count hK
                  obtain ⟨ka, kc, rfl, _⟩ := slice_shape hrow8
                  rw [hcount]
                  have HB8 := Lib.hid hb8
                  clear hrow8 hb8 hK hcount HJ
                  go_wp2_with fail
                  go_loopw [14] (fun vk wq => ∃ m : Nat, vk = .int .i64 m ∧ m ≤ (J2).length ∧ Below u4.heap.size u4 wq) (fun vk _ => (J2).length - (intOf vk).toNat)
                  case atStart => exact ⟨0, rfl, Nat.zero_le _, HB8.out⟩
                  case round =>
                    clear HB8
                    obtain ⟨m, rfl, hm, hbq⟩ := hrel
                    by_cases hml : m < (J2).length
                    · obtain ⟨a1, c1, e1, r1⟩ := (HRJ.out.below hbq).shape
                      obtain ⟨a2, c2, e2, r2⟩ := (HRT.out.below hbq).shape
                      cases e1
                      cases e2
                      have hml2 : m < (T2).length := by rw [HMIR.out.len]; exact hml
                      obtain ⟨g1, eg1, x1, _⟩ := r1 m hml
                      cases eg1
                      obtain ⟨g2, eg2, x2, _⟩ := r2 m hml2
                      cases eg2
                      have hft := HMIR.out.at_ m hml
                      have hlen := HMIR.out.len
                      have hjt : (J2)[m] < top64 := by
                        rcases Nat.lt_or_ge (J2)[m] top64 with h' | h'
                        · exact h'
                        · have h1 := HTK.out.big (J2)[m] (Nat.not_lt.2 h')
                          have h2 := (HMIR.out.mem (J2)[m]).1 (List.getElem_mem hml)
                          omega
                      have hto := fun n => top_tk (HTK.out.below (bel_drewN hbq n)) hjt
                      rw [hft] at hto
                      have HTO := Lib.hid hto
                      clear hto
                      obtain ⟨jm, hjm⟩ : ∃ jm, jm = (J2)[m] := ⟨_, rfl⟩
                      obtain ⟨tm, htm⟩ : ∃ tm, tm = (T2)[m]'hml2 := ⟨_, rfl⟩
                      rw [← hjm] at x1 HTO
                      rw [← htm] at x2 HTO
                      have HBQ := Lib.hid hbq
                      clear r1 r2 hft hjt hjm htm hbq hlen
                      go_wp2_with fail
                      go_big_quiet (first | (go_at_call 12; refine Calls.quiet_of_same (HTO.out _)))
                      go_wp2_with fail
                      go_roundw
                      case rel => exact ⟨m + 1, by go_num, by omega, bel_drewN HBQ.out nq⟩
                      case measure => simp [intOf]; omega
                    · obtain rfl : m = (J2).length := by omega
                      have HBQ := Lib.hid hbq
                      clear hbq hml hm
                      go_wp2_with fail
                      go_roundw
                      case rel => exact ⟨i + 1, k, b, note f job tok, J2, T2, rfl, rfl, by go_num, by omega, ⟨⟨o5, rs ++ [(job, tok)], HTK.out.below HBQ.out, HRS.out, HTP.out, HRJ.out.below HBQ.out, HRT.out.below HBQ.out⟩, HMIR.out, HLEN.out, HAP.out, HBEL.out.trans (HBQ.out.mono HBEL.out.size), HUP.out, Nat.le_refl _⟩⟩
                      case measure => simp [intOf]; omega
                refine AllReadyH.cons (o := ?_) ?_ (fun K hK => ?_) AllReadyH.nil
                rotate_left
                focus (simp only [List.getElem?_toArray, List.getElem?_cons_succ, List.getElem?_cons_zero]; rfl)
                rw [if_pos (by rfl)]
                go_simp
                have hq := HQ.out.made tok
                obtain ⟨st, hst⟩ : ∃ s, s = u0.heap.size := ⟨_, rfl⟩
                obtain ⟨u1, hu1⟩ : ∃ u, u = u0.alloc (.cells #[.int .u64 (tok : Int)] 31) := ⟨_, rfl⟩
                rw [← hu1] at hq ⊢
                rw [← hst] at hq ⊢
                clear hst hu1 HQ
                have HQ := Lib.hid hq
                clear hq
                refine hK.out _ _ ⟨HQ.out.fields 1, HQ.out.fields 2⟩ (fun hHeld => ?_)
                clear hK K
                try simp only [Act.put]
                try simp only [List.setIfInBounds_toArray]
                try simp only [List.set_cons_succ]
                try simp only [List.set_cons_zero]
                refine wpAnyH_ready (rs := [3]) (by kernel_rfl) (by simp) ?_
                refine AllReadyH.cons (o := ?_) ?_ (fun K hK => ?_) AllReadyH.nil
                rotate_left
                focus (simp only [List.getElem?_toArray, List.getElem?_cons_succ, List.getElem?_cons_zero]; rfl)
                rw [if_pos (by rfl)]
                go_simp
                have hq := HQ.out.made job
                obtain ⟨sj, hsj⟩ : ∃ s, s = u1.heap.size := ⟨_, rfl⟩
                obtain ⟨u2, hu2⟩ : ∃ u, u = u1.alloc (.cells #[.int .u64 (job : Int)] 31) := ⟨_, rfl⟩
                rw [← hu2] at hq ⊢
                rw [← hsj] at hq ⊢
                clear hsj hu2 HQ
                have HQ := Lib.hid hq
                clear hq
                refine hK.out _ _ ⟨HQ.out.fields 1, HQ.out.fields 2⟩ (fun hHeld => ?_)
                clear hK K
                try simp only [Act.put]
                try simp only [List.setIfInBounds_toArray]
                try simp only [List.set_cons_succ]
                try simp only [List.set_cons_zero]
                refine wpAnyH_ready (rs := [4]) (by kernel_rfl) (by simp) ?_
                refine AllReadyH.cons (o := ?_) ?_ (fun K hK => ?_) AllReadyH.nil
                rotate_left
                focus (simp only [List.getElem?_toArray, List.getElem?_cons_succ, List.getElem?_cons_zero]; rfl)
                rw [if_pos (by rfl)]
                obtain ⟨vj2, u3, hrun, hq⟩ := HQ.out.app1 (s := sj) (j := job) (by simp) (by have := HLEN0.out; have := HTL.out; omega)
                refine wp_append_runU rfl rfl rfl hrun ?_
                clear hrun HQ
                have HQ := Lib.hid hq
                clear hq
                refine hK.out _ _ ⟨HQ.out.fields 1, HQ.out.fields 2⟩ (fun hHeld => ?_)
                clear hK K
                try simp only [Act.put]
                try simp only [List.setIfInBounds_toArray]
                try simp only [List.set_cons_succ]
                try simp only [List.set_cons_zero]
                refine wpAnyH_ready (rs := [9]) (by kernel_rfl) (by simp) ?_
                refine AllReadyH.cons (o := ?_) ?_ (fun K hK => ?_) AllReadyH.nil
                rotate_left
                focus (simp only [List.getElem?_toArray, List.getElem?_cons_succ, List.getElem?_cons_zero]; rfl)
                rw [if_pos (by rfl)]
                obtain ⟨vt2, u4, hrun, hq⟩ := HQ.out.app2 (s := st) (t := tok) (by simp) (by have := HLEN0.out; have := HTL.out; omega)
                refine wp_append_runU rfl rfl rfl hrun ?_
                clear hrun HQ
                have HQ := Lib.hid hq
                clear hq
                refine hK.out _ _ ⟨HQ.out.fields 1, HQ.out.fields 2⟩ (fun hHeld => ?_)
                clear hK K
                try simp only [Act.put]
                try simp only [List.setIfInBounds_toArray]
                try simp only [List.set_cons_succ]
                try simp only [List.set_cons_zero]
                refine wpAnyH_take (i := 10) (oi := ?_) (v := ?_) ?_ (by kernel_rfl) (by kernel_rfl) (by kernel_rfl) ?_ (Or.inl ⟨?_, ?_⟩) (by assumption) ?_
                rotate_left 2
                focus (simp only [List.getElem?_toArray, List.getElem?_cons_succ, List.getElem?_cons_zero]; rfl)
                focus exact fun _ _ _ h => h
                focus rfl
                focus (intro W hS; (try dsimp only at hS); have q1 := hS.1; have q2 := hS.2; go_simp; (try with_reducible rfl))
                try simp only [Act.put]
                try simp only [List.setIfInBounds_toArray]
                try simp only [List.set_cons_succ]
                try simp only [List.set_cons_zero]
                refine wpAnyH_take (i := 11) (oi := ?_) (v := ?_) ?_ (by kernel_rfl) (by kernel_rfl) (by kernel_rfl) ?_ (Or.inl ⟨?_, ?_⟩) (by assumption) ?_
                rotate_left 2
                focus (simp only [List.getElem?_toArray, List.getElem?_cons_succ, List.getElem?_cons_zero]; rfl)
                focus exact fun _ _ _ h => h
                focus rfl
                focus (intro W hS; (try dsimp only at hS); have q1 := hS.1; have q2 := hS.2; go_simp; (try with_reducible rfl))
                try simp only [Act.put]
                try simp only [List.setIfInBounds_toArray]
                try simp only [List.set_cons_succ]
                try simp only [List.set_cons_zero]
                refine wpAnyH_done (by kernel_rfl) ?_ _
                have htk9 := HQ.out.tk
                have hrj9 := HQ.out.rj
                have hrt9 := HQ.out.rt
                have hap9 := HQ.out.apart
                have hbel9 := HQ.out.bel
                have hmir9 := HMIR0.out.more hnm (show 0 < tok by omega)
                obtain ⟨J2, hJ2⟩ : ∃ J2, J2 = J ++ [job] := ⟨_, rfl⟩
                obtain ⟨T2, hT2⟩ : ∃ T2, T2 = T ++ [tok] := ⟨_, rfl⟩
                have hl9 : J2.length ≤ i + 1 := by rw [hJ2]; simp; exact HLEN0.out
                have hjl2 : J2.length ≤ 61 := by omega
                rw [← hJ2] at hrj9 hmir9
                rw [← hT2] at hrt9 hmir9
                obtain ⟨jb, jd, rfl, _⟩ := hrj9.shape
                obtain ⟨tb, td, rfl, _⟩ := hrt9.shape
                have HTK := Lib.hid htk9
                have HRS := Lib.hid (show (rs ++ [(job, tok)]).length ≤ i + 1 by simp; exact HRS0.out)
                have HRJ := Lib.hid hrj9
                have HRT := Lib.hid hrt9
                have HMIR := Lib.hid hmir9
                have HLEN := Lib.hid hl9
                have HAP := Lib.hid hap9
                have HBEL := Lib.hid hbel9
                have HUP := HUP0
                clear htk9 hrj9 hrt9 hap9 hbel9 hmir9 hJ2 hT2 hl9 HQ HTK7 HRJ7 HRT7 HBEL7 HTK0 HRS0 HTP0 HRJ0 HRT0 HLEN0 HAP0 HBEL0 HUP0 HOB HC1 HBQ x1 x2 h0 h1 h2 h3 h4
                try clear hHeld
                have HJ := Lib.hid (jobs_tk HTK.out (by omega))
                go_wp2_with fail
                refine HJ.out.mono ?_
                rintro e w8 ⟨vK, K, rfl, hK, hrow8, hb8⟩
                have hcount := HMIR.out.count hK
                obtain ⟨ka, kc, rfl, _⟩ := slice_shape hrow8
                rw [hcount]
                have HB8 := Lib.hid hb8
                clear hrow8 hb8 hK hcount HJ
                go_wp2_with fail
                go_loopw [14] (fun vk wq => ∃ m : Nat, vk = .int .i64 m ∧ m ≤ (J2).length ∧ Below u4.heap.size u4 wq) (fun vk _ => (J2).length - (intOf vk).toNat)
                case atStart => exact ⟨0, rfl, Nat.zero_le _, HB8.out⟩
                case round =>
                  clear HB8
                  obtain ⟨m, rfl, hm, hbq⟩ := hrel
                  by_cases hml : m < (J2).length
                  · obtain ⟨a1, c1, e1, r1⟩ := (HRJ.out.below hbq).shape
                    obtain ⟨a2, c2, e2, r2⟩ := (HRT.out.below hbq).shape
                    cases e1
                    cases e2
                    have hml2 : m < (T2).length := by rw [HMIR.out.len]; exact hml
                    obtain ⟨g1, eg1, x1, _⟩ := r1 m hml
                    cases eg1
                    obtain ⟨g2, eg2, x2, _⟩ := r2 m hml2
                    cases eg2
                    have hft := HMIR.out.at_ m hml
                    have hlen := HMIR.out.len
                    have hjt : (J2)[m] < top64 := by
                      rcases Nat.lt_or_ge (J2)[m] top64 with h' | h'
                      · exact h'
                      · have h1 := HTK.out.big (J2)[m] (Nat.not_lt.2 h')
                        have h2 := (HMIR.out.mem (J2)[m]).1 (List.getElem_mem hml)
                        omega
                    have hto := fun n => top_tk (HTK.out.below (bel_drewN hbq n)) hjt
                    rw [hft] at hto
                    have HTO := Lib.hid hto
                    clear hto
                    obtain ⟨jm, hjm⟩ : ∃ jm, jm = (J2)[m] := ⟨_, rfl⟩
                    obtain ⟨tm, htm⟩ : ∃ tm, tm = (T2)[m]'hml2 := ⟨_, rfl⟩
                    rw [← hjm] at x1 HTO
                    rw [← htm] at x2 HTO
                    have HBQ := Lib.hid hbq
                    clear r1 r2 hft hjt hjm htm hbq hlen
                    go_wp2_with fail
                    go_big_quiet (first | (go_at_call 12; refine Calls.quiet_of_same (HTO.out _)))
                    go_wp2_with fail
                    go_roundw
                    case rel => exact ⟨m + 1, by go_num, by omega, bel_drewN HBQ.out nq⟩
                    case measure => simp [intOf]; omega
                  · obtain rfl : m = (J2).length := by omega
                    have HBQ := Lib.hid hbq
                    clear hbq hml hm
                    go_wp2_with fail
                    go_roundw
                    case rel => exact ⟨i + 1, k, b, note f job tok, J2, T2, rfl, rfl, by go_num, by omega, ⟨⟨o5, rs ++ [(job, tok)], HTK.out.below HBQ.out, HRS.out, HTP.out, HRJ.out.below HBQ.out, HRT.out.below HBQ.out⟩, HMIR.out, HLEN.out, HAP.out, HBEL.out.trans (HBQ.out.mono HBEL.out.size), HUP.out, Nat.le_refl _⟩⟩
                    case measure => simp [intOf]; omega
            · have hfa : f job = T[at_]'(by rw [HMIR0.out.len]; exact hat) := by rw [← hja]; exact HMIR0.out.at_ at_ hat
              have hf1 : 0 < f job := (HMIR0.out.mem job).1 (by rw [← hja]; exact List.getElem_mem hat)
              rw [hpa]
              by_cases ht0 : tok = 0
              · subst ht0
                rw [show accE f job 0 = 2 by simp [accE]] at hac
                have HAC := Lib.hid hac
                clear hac
                go_wp2_with fail
                refine HAC.out.mono ?_
                rintro e w5 ⟨rfl, o5, htk5, he5⟩
                clear HAC
                have y2 : w5.cell? ⟨x, 2, none⟩ = some (.int .u64 (0 : Int)) := by
                  have hxl := lt_of_block HOB.out
                  rw [cell_of_row _ _ 2 _ _ _ ((he5.block _ (Nat.lt_of_lt_of_le hxl HBQ.out.size) HOX.out.1 HOX.out.2).trans ((HBQ.out.block _ hxl).trans HOB.out))]; rfl
                have y1 : w5.cell? ⟨x, 1, none⟩ = some (.int .u64 (job : Int)) := by
                  have hxl := lt_of_block HOB.out
                  rw [cell_of_row _ _ 1 _ _ _ ((he5.block _ (Nat.lt_of_lt_of_le hxl HBQ.out.size) HOX.out.1 HOX.out.2).trans ((HBQ.out.block _ hxl).trans HOB.out))]; rfl
                have hx5 := (he5.block _ (Nat.lt_of_lt_of_le (lt_of_block HOB.out) HBQ.out.size) HOX.out.1 HOX.out.2).trans ((HBQ.out.block _ (lt_of_block HOB.out)).trans HOB.out)
                have HX5 := Lib.hid hx5
                clear hx5
                have hisb := (HTK0.out.below HBQ.out).isMap
                have HRJ5 := Lib.hid ((HRJ0.out.below HBQ.out).eff he5 hisb)
                have HRT5 := Lib.hid ((HRT0.out.below HBQ.out).eff he5 hisb)
                have HBEL4 := Lib.hid (HBEL0.out.trans (HBQ.out.mono HBEL0.out.size))
                have HBEL5 := Lib.hid (HBEL4.out.trans (he5.below HBEL4.out.size HUP0.out (fun i' hi' => by
                  cases h' : o i' with
                  | none => rfl
                  | some y => have h1 := (HTK0.out.owns i' (by rw [h']; simp)).1; omega)))
                have hsame : accF f job 0 = f ∧ accR f rs job 0 = rs := ⟨note_old f (by omega), by unfold accR; rw [if_neg (by omega)]⟩
                rw [hsame.1, hsame.2] at htk5
                have HTK5 := Lib.hid htk5
                clear htk5 he5 hisb hsame
                obtain ⟨tx, htx⟩ : ∃ tx, tx = T[at_]'(by rw [HMIR0.out.len]; exact hat) := ⟨_, rfl⟩
                obtain ⟨a2, c2, e2, r2⟩ := HRT5.out.shape
                cases e2
                have hatl : at_ < T.length := by rw [HMIR0.out.len]; exact hat
                obtain ⟨g2, rfl, x4, x5⟩ := r2 at_ hatl
                rw [← htx] at x4 hfa
                have HTX := Lib.hid htx
                clear r2 htx
                go_wp2_with fail
                go_region
                obtain ⟨w7, hw7⟩ : ∃ w7, w7 = w5.drew := ⟨_, rfl⟩
                have hb7 : Below w5.heap.size w5 w7 := by rw [hw7]; exact (Below.refl _ _).drew
                rw [← hw7]
                have y2 : w7.cell? ⟨x, 2, none⟩ = some (.int .u64 0) := by rw [hw7]; exact y2
                have y1 : w7.cell? ⟨x, 1, none⟩ = some (.int .u64 (job : Int)) := by rw [hw7]; exact y1
                have HX7 := Lib.hid ((hb7.block _ (lt_of_block HX5.out)).trans HX5.out)
                have HTK7 := Lib.hid (HTK5.out.below hb7)
                have HRJ7 := Lib.hid (HRJ5.out.below hb7)
                have HRT7 := Lib.hid (HRT5.out.below hb7)
                have HBEL7 := Lib.hid (HBEL5.out.trans (hb7.mono HBEL5.out.size))
                clear hb7 hw7 HTK5 HRJ5 HRT5 HBEL5 HBEL4
                have HTK := HTK7
                have HRS := Lib.hid (show rs.length ≤ i + 1 by have := HRS0.out; omega)
                have HTP := HTP0
                have HRJ := HRJ7
                have HRT := HRT7
                have HMIR := HMIR0
                have HLEN := Lib.hid (show J.length ≤ i + 1 by have := HLEN0.out; omega)
                have HAP := HAP0
                have HBEL := HBEL7
                have HUP := HUP0
                clear HTK7 HRJ7 HRT7 HBEL7 HTK0 HRS0 HTP0 HRJ0 HRT0 HLEN0 HAP0 HBEL0 HUP0 HOB HC1 HBQ x1 x2 h0 h1 h2 h3 h4
                have HJ := Lib.hid (jobs_tk HTK.out (by omega))
                go_wp2_with fail
                refine HJ.out.mono ?_
                rintro e w8 ⟨vK, K, rfl, hK, hrow8, hb8⟩
                have hcount := HMIR.out.count hK
                obtain ⟨ka, kc, rfl, _⟩ := slice_shape hrow8
                rw [hcount]
                have HB8 := Lib.hid hb8
                clear hrow8 hb8 hK hcount HJ
                go_wp2_with fail
                go_loopw [14] (fun vk wq => ∃ m : Nat, vk = .int .i64 m ∧ m ≤ (J).length ∧ Below w7.heap.size w7 wq) (fun vk _ => (J).length - (intOf vk).toNat)
                case atStart => exact ⟨0, rfl, Nat.zero_le _, HB8.out⟩
                case round =>
                  clear HB8
                  obtain ⟨m, rfl, hm, hbq⟩ := hrel
                  by_cases hml : m < (J).length
                  · obtain ⟨a1, c1, e1, r1⟩ := (HRJ.out.below hbq).shape
                    obtain ⟨a2, c2, e2, r2⟩ := (HRT.out.below hbq).shape
                    cases e1
                    cases e2
                    have hml2 : m < (T).length := by rw [HMIR.out.len]; exact hml
                    obtain ⟨g1, eg1, x1, _⟩ := r1 m hml
                    cases eg1
                    obtain ⟨g2, eg2, x2, _⟩ := r2 m hml2
                    cases eg2
                    have hft := HMIR.out.at_ m hml
                    have hlen := HMIR.out.len
                    have hjt : (J)[m] < top64 := by
                      rcases Nat.lt_or_ge (J)[m] top64 with h' | h'
                      · exact h'
                      · have h1 := HTK.out.big (J)[m] (Nat.not_lt.2 h')
                        have h2 := (HMIR.out.mem (J)[m]).1 (List.getElem_mem hml)
                        omega
                    have hto := fun n => top_tk (HTK.out.below (bel_drewN hbq n)) hjt
                    rw [hft] at hto
                    have HTO := Lib.hid hto
                    clear hto
                    obtain ⟨jm, hjm⟩ : ∃ jm, jm = (J)[m] := ⟨_, rfl⟩
                    obtain ⟨tm, htm⟩ : ∃ tm, tm = (T)[m]'hml2 := ⟨_, rfl⟩
                    rw [← hjm] at x1 HTO
                    rw [← htm] at x2 HTO
                    have HBQ := Lib.hid hbq
                    clear r1 r2 hft hjt hjm htm hbq hlen
                    go_wp2_with fail
                    go_big_quiet (first | (go_at_call 12; refine Calls.quiet_of_same (HTO.out _)))
                    go_wp2_with fail
                    go_roundw
                    case rel => exact ⟨m + 1, by go_num, by omega, bel_drewN HBQ.out nq⟩
                    case measure => simp [intOf]; omega
                  · obtain rfl : m = (J).length := by omega
                    have HBQ := Lib.hid hbq
                    clear hbq hml hm
                    go_wp2_with fail
                    go_roundw
                    case rel => exact ⟨i + 1, k, b, f, J, T, rfl, rfl, by go_num, by omega, ⟨⟨o5, rs, HTK.out.below HBQ.out, HRS.out, HTP.out, HRJ.out.below HBQ.out, HRT.out.below HBQ.out⟩, HMIR.out, HLEN.out, HAP.out, HBEL.out.trans (HBQ.out.mono HBEL.out.size), HUP.out, Nat.le_refl _⟩⟩
                    case measure => simp [intOf]; omega
              · by_cases htl : tok ≤ f job
                · rw [show accE f job tok = 120 by simp [accE, ht0, htl]] at hac
                  have HAC := Lib.hid hac
                  clear hac
                  go_wp2_with fail
                  refine HAC.out.mono ?_
                  rintro e w5 ⟨rfl, o5, htk5, he5⟩
                  clear HAC
                  have y2 : w5.cell? ⟨x, 2, none⟩ = some (.int .u64 (tok : Int)) := by
                    have hxl := lt_of_block HOB.out
                    rw [cell_of_row _ _ 2 _ _ _ ((he5.block _ (Nat.lt_of_lt_of_le hxl HBQ.out.size) HOX.out.1 HOX.out.2).trans ((HBQ.out.block _ hxl).trans HOB.out))]; rfl
                  have y1 : w5.cell? ⟨x, 1, none⟩ = some (.int .u64 (job : Int)) := by
                    have hxl := lt_of_block HOB.out
                    rw [cell_of_row _ _ 1 _ _ _ ((he5.block _ (Nat.lt_of_lt_of_le hxl HBQ.out.size) HOX.out.1 HOX.out.2).trans ((HBQ.out.block _ hxl).trans HOB.out))]; rfl
                  have hx5 := (he5.block _ (Nat.lt_of_lt_of_le (lt_of_block HOB.out) HBQ.out.size) HOX.out.1 HOX.out.2).trans ((HBQ.out.block _ (lt_of_block HOB.out)).trans HOB.out)
                  have HX5 := Lib.hid hx5
                  clear hx5
                  have hisb := (HTK0.out.below HBQ.out).isMap
                  have HRJ5 := Lib.hid ((HRJ0.out.below HBQ.out).eff he5 hisb)
                  have HRT5 := Lib.hid ((HRT0.out.below HBQ.out).eff he5 hisb)
                  have HBEL4 := Lib.hid (HBEL0.out.trans (HBQ.out.mono HBEL0.out.size))
                  have HBEL5 := Lib.hid (HBEL4.out.trans (he5.below HBEL4.out.size HUP0.out (fun i' hi' => by
                    cases h' : o i' with
                    | none => rfl
                    | some y => have h1 := (HTK0.out.owns i' (by rw [h']; simp)).1; omega)))
                  have hsame : accF f job tok = f ∧ accR f rs job tok = rs := ⟨note_old f (by omega), by unfold accR; rw [if_neg (by omega)]⟩
                  rw [hsame.1, hsame.2] at htk5
                  have HTK5 := Lib.hid htk5
                  clear htk5 he5 hisb hsame
                  obtain ⟨tx, htx⟩ : ∃ tx, tx = T[at_]'(by rw [HMIR0.out.len]; exact hat) := ⟨_, rfl⟩
                  obtain ⟨a2, c2, e2, r2⟩ := HRT5.out.shape
                  cases e2
                  have hatl : at_ < T.length := by rw [HMIR0.out.len]; exact hat
                  obtain ⟨g2, rfl, x4, x5⟩ := r2 at_ hatl
                  rw [← htx] at x4 hfa
                  have HTX := Lib.hid htx
                  clear r2 htx
                  have z1 : decide ((0 : Int) < (tok : Int)) = true := by simp; omega
                  have z2 : ((tok : Int) == 0) = false := by simp; omega
                  have z3 : decide ((tok : Int) ≤ (tx : Int)) = true := by simp; omega
                  go_wp2_with fail
                  go_region
                  obtain ⟨w7, hw7⟩ : ∃ w7, w7 = w5.drew := ⟨_, rfl⟩
                  have hb7 : Below w5.heap.size w5 w7 := by rw [hw7]; exact (Below.refl _ _).drew
                  rw [← hw7]
                  have y2 : w7.cell? ⟨x, 2, none⟩ = some (.int .u64 (tok : Int)) := by rw [hw7]; exact y2
                  have y1 : w7.cell? ⟨x, 1, none⟩ = some (.int .u64 (job : Int)) := by rw [hw7]; exact y1
                  have HX7 := Lib.hid ((hb7.block _ (lt_of_block HX5.out)).trans HX5.out)
                  have HTK7 := Lib.hid (HTK5.out.below hb7)
                  have HRJ7 := Lib.hid (HRJ5.out.below hb7)
                  have HRT7 := Lib.hid (HRT5.out.below hb7)
                  have HBEL7 := Lib.hid (HBEL5.out.trans (hb7.mono HBEL5.out.size))
                  clear hb7 hw7 HTK5 HRJ5 HRT5 HBEL5 HBEL4
                  have HTK := HTK7
                  have HRS := Lib.hid (show rs.length ≤ i + 1 by have := HRS0.out; omega)
                  have HTP := HTP0
                  have HRJ := HRJ7
                  have HRT := HRT7
                  have HMIR := HMIR0
                  have HLEN := Lib.hid (show J.length ≤ i + 1 by have := HLEN0.out; omega)
                  have HAP := HAP0
                  have HBEL := HBEL7
                  have HUP := HUP0
                  clear HTK7 HRJ7 HRT7 HBEL7 HTK0 HRS0 HTP0 HRJ0 HRT0 HLEN0 HAP0 HBEL0 HUP0 HOB HC1 HBQ x1 x2 h0 h1 h2 h3 h4
                  have HJ := Lib.hid (jobs_tk HTK.out (by omega))
                  go_wp2_with fail
                  refine HJ.out.mono ?_
                  rintro e w8 ⟨vK, K, rfl, hK, hrow8, hb8⟩
                  have hcount := HMIR.out.count hK
                  obtain ⟨ka, kc, rfl, _⟩ := slice_shape hrow8
                  rw [hcount]
                  have HB8 := Lib.hid hb8
                  clear hrow8 hb8 hK hcount HJ
                  go_wp2_with fail
                  go_loopw [14] (fun vk wq => ∃ m : Nat, vk = .int .i64 m ∧ m ≤ (J).length ∧ Below w7.heap.size w7 wq) (fun vk _ => (J).length - (intOf vk).toNat)
                  case atStart => exact ⟨0, rfl, Nat.zero_le _, HB8.out⟩
                  case round =>
                    clear HB8
                    obtain ⟨m, rfl, hm, hbq⟩ := hrel
                    by_cases hml : m < (J).length
                    · obtain ⟨a1, c1, e1, r1⟩ := (HRJ.out.below hbq).shape
                      obtain ⟨a2, c2, e2, r2⟩ := (HRT.out.below hbq).shape
                      cases e1
                      cases e2
                      have hml2 : m < (T).length := by rw [HMIR.out.len]; exact hml
                      obtain ⟨g1, eg1, x1, _⟩ := r1 m hml
                      cases eg1
                      obtain ⟨g2, eg2, x2, _⟩ := r2 m hml2
                      cases eg2
                      have hft := HMIR.out.at_ m hml
                      have hlen := HMIR.out.len
                      have hjt : (J)[m] < top64 := by
                        rcases Nat.lt_or_ge (J)[m] top64 with h' | h'
                        · exact h'
                        · have h1 := HTK.out.big (J)[m] (Nat.not_lt.2 h')
                          have h2 := (HMIR.out.mem (J)[m]).1 (List.getElem_mem hml)
                          omega
                      have hto := fun n => top_tk (HTK.out.below (bel_drewN hbq n)) hjt
                      rw [hft] at hto
                      have HTO := Lib.hid hto
                      clear hto
                      obtain ⟨jm, hjm⟩ : ∃ jm, jm = (J)[m] := ⟨_, rfl⟩
                      obtain ⟨tm, htm⟩ : ∃ tm, tm = (T)[m]'hml2 := ⟨_, rfl⟩
                      rw [← hjm] at x1 HTO
                      rw [← htm] at x2 HTO
                      have HBQ := Lib.hid hbq
                      clear r1 r2 hft hjt hjm htm hbq hlen
                      go_wp2_with fail
                      go_big_quiet (first | (go_at_call 12; refine Calls.quiet_of_same (HTO.out _)))
                      go_wp2_with fail
                      go_roundw
                      case rel => exact ⟨m + 1, by go_num, by omega, bel_drewN HBQ.out nq⟩
                      case measure => simp [intOf]; omega
                    · obtain rfl : m = (J).length := by omega
                      have HBQ := Lib.hid hbq
                      clear hbq hml hm
                      go_wp2_with fail
                      go_roundw
                      case rel => exact ⟨i + 1, k, b, f, J, T, rfl, rfl, by go_num, by omega, ⟨⟨o5, rs, HTK.out.below HBQ.out, HRS.out, HTP.out, HRJ.out.below HBQ.out, HRT.out.below HBQ.out⟩, HMIR.out, HLEN.out, HAP.out, HBEL.out.trans (HBQ.out.mono HBEL.out.size), HUP.out, Nat.le_refl _⟩⟩
                      case measure => simp [intOf]; omega
                · rw [show accE f job tok = 0 by simp [accE, ht0, htl]] at hac
                  have HAC := Lib.hid hac
                  clear hac
                  go_wp2_with fail
                  refine HAC.out.mono ?_
                  rintro e w5 ⟨rfl, o5, htk5, he5⟩
                  clear HAC
                  have y2 : w5.cell? ⟨x, 2, none⟩ = some (.int .u64 (tok : Int)) := by
                    have hxl := lt_of_block HOB.out
                    rw [cell_of_row _ _ 2 _ _ _ ((he5.block _ (Nat.lt_of_lt_of_le hxl HBQ.out.size) HOX.out.1 HOX.out.2).trans ((HBQ.out.block _ hxl).trans HOB.out))]; rfl
                  have y1 : w5.cell? ⟨x, 1, none⟩ = some (.int .u64 (job : Int)) := by
                    have hxl := lt_of_block HOB.out
                    rw [cell_of_row _ _ 1 _ _ _ ((he5.block _ (Nat.lt_of_lt_of_le hxl HBQ.out.size) HOX.out.1 HOX.out.2).trans ((HBQ.out.block _ hxl).trans HOB.out))]; rfl
                  have hx5 := (he5.block _ (Nat.lt_of_lt_of_le (lt_of_block HOB.out) HBQ.out.size) HOX.out.1 HOX.out.2).trans ((HBQ.out.block _ (lt_of_block HOB.out)).trans HOB.out)
                  have HX5 := Lib.hid hx5
                  clear hx5
                  have hisb := (HTK0.out.below HBQ.out).isMap
                  have HRJ5 := Lib.hid ((HRJ0.out.below HBQ.out).eff he5 hisb)
                  have HRT5 := Lib.hid ((HRT0.out.below HBQ.out).eff he5 hisb)
                  have HBEL4 := Lib.hid (HBEL0.out.trans (HBQ.out.mono HBEL0.out.size))
                  have HBEL5 := Lib.hid (HBEL4.out.trans (he5.below HBEL4.out.size HUP0.out (fun i' hi' => by
                    cases h' : o i' with
                    | none => rfl
                    | some y => have h1 := (HTK0.out.owns i' (by rw [h']; simp)).1; omega)))
                  have hsame : accF f job tok = note f job tok ∧ accR f rs job tok = rs ++ [(job, tok)] := ⟨rfl, by unfold accR; rw [if_pos (by omega)]⟩
                  have htp5 := accR_tops HTP0.out job tok
                  rw [hsame.1, hsame.2] at htk5 htp5
                  have HTP := Lib.hid htp5
                  have HTK5 := Lib.hid htk5
                  clear htk5 he5 hisb hsame htp5
                  obtain ⟨tx, htx⟩ : ∃ tx, tx = T[at_]'(by rw [HMIR0.out.len]; exact hat) := ⟨_, rfl⟩
                  obtain ⟨a2, c2, e2, r2⟩ := HRT5.out.shape
                  cases e2
                  have hatl : at_ < T.length := by rw [HMIR0.out.len]; exact hat
                  obtain ⟨g2, rfl, x4, x5⟩ := r2 at_ hatl
                  rw [← htx] at x4 hfa
                  have HTX := Lib.hid htx
                  clear r2 htx
                  have z1 : decide ((0 : Int) < (tok : Int)) = true := by simp; omega
                  have z2 : ((tok : Int) == 0) = false := by simp; omega
                  have z3 : decide ((tok : Int) ≤ (tx : Int)) = false := by simp; omega
                  go_wp2_with fail
                  go_region
                  obtain ⟨w7, hw7⟩ : ∃ w7, w7 = w5.drew := ⟨_, rfl⟩
                  have hb7 : Below w5.heap.size w5 w7 := by rw [hw7]; exact (Below.refl _ _).drew
                  rw [← hw7]
                  have y2 : w7.cell? ⟨x, 2, none⟩ = some (.int .u64 (tok : Int)) := by rw [hw7]; exact y2
                  have y1 : w7.cell? ⟨x, 1, none⟩ = some (.int .u64 (job : Int)) := by rw [hw7]; exact y1
                  have HX7 := Lib.hid ((hb7.block _ (lt_of_block HX5.out)).trans HX5.out)
                  have HTK7 := Lib.hid (HTK5.out.below hb7)
                  have HRJ7 := Lib.hid (HRJ5.out.below hb7)
                  have HRT7 := Lib.hid (HRT5.out.below hb7)
                  have HBEL7 := Lib.hid (HBEL5.out.trans (hb7.mono HBEL5.out.size))
                  clear hb7 hw7 HTK5 HRJ5 HRT5 HBEL5 HBEL4
                  have z4 : decide ((at_ : Int) < 0) = false := by simp
                  obtain ⟨a2, c2, e2, r2⟩ := HRT7.out.shape
                  cases e2
                  obtain ⟨g2', eg2, x4, x5⟩ := r2 at_ hatl
                  cases eg2
                  clear r2
                  go_wp2_with fail
                  obtain ⟨w6, hw6⟩ : ∃ w6, w6 = w7.setCell ⟨g2, at_, none⟩ (.int .u64 (tok : Int)) := ⟨_, rfl⟩
                  rw [← hw6]
                  obtain ⟨hgc, hgB, hgl⟩ := HRT7.out.block_cells (r := g2) rfl
                  have hof := HRT7.out.free g2 rfl
                  have htk8 := HTK7.out.other (World.grownBy_setCell w7 g2 at_ (.int .u64 (tok : Int))) hof hgc
                  have hrt8 := HRT7.out.put at_ tok hatl
                  have hrj8 := HRJ7.out.other ⟨g2, at_, none⟩ (.int .u64 (tok : Int)) (fun e => HAP0.out g2 e rfl)
                  have hbel8 := HBEL7.out.setCell (p := ⟨g2, at_, none⟩) hgB (.int .u64 (tok : Int))
                  have hmir8 := HMIR0.out.put (t := tok) hat (by rw [hja]; omega)
                  rw [hja] at hmir8
                  rw [← hw6] at htk8 hrt8 hrj8 hbel8
                  obtain ⟨T2, hT2⟩ : ∃ T2, T2 = T.set at_ tok := ⟨_, rfl⟩
                  have hTl : T2.length = T.length := by rw [hT2, List.length_set]
                  rw [← hT2] at hrt8 hmir8
                  rw [← hTl]
                  have HTK := Lib.hid htk8
                  have HRS := Lib.hid (show (rs ++ [(job, tok)]).length ≤ i + 1 by simp; exact HRS0.out)
                  have HRJ := Lib.hid hrj8
                  have HRT := Lib.hid hrt8
                  have HMIR := Lib.hid hmir8
                  have HLEN := Lib.hid (show J.length ≤ i + 1 by have := HLEN0.out; omega)
                  have HAP := Lib.hid (show ∀ y, (Value.slice ja J.length jc).ownBlock = some y → (Value.slice (some ⟨g2, 0, none⟩) T2.length tc).ownBlock ≠ some y from fun y e => HAP0.out y e)
                  have HBEL := Lib.hid hbel8
                  have HUP := HUP0
                  clear htk8 hrj8 hrt8 hbel8 hmir8 hT2 hTl hgc hgB hgl hof HTK7 HRJ7 HRT7 HBEL7 HTK0 HRS0 HTP0 HRJ0 HRT0 HLEN0 HAP0 HBEL0 HUP0 HOB HC1 HBQ x1 x2 x4 x5 h0 h1 h2 h3 h4 hw6 y1 y2 z1 z2 z3 z4
                  have HJ := Lib.hid (jobs_tk HTK.out (by omega))
                  go_wp2_with fail
                  refine HJ.out.mono ?_
                  rintro e w8 ⟨vK, K, rfl, hK, hrow8, hb8⟩
                  have hcount := HMIR.out.count hK
                  obtain ⟨ka, kc, rfl, _⟩ := slice_shape hrow8
                  rw [hcount]
                  have HB8 := Lib.hid hb8
                  clear hrow8 hb8 hK hcount HJ
                  go_wp2_with fail
                  go_loopw [14] (fun vk wq => ∃ m : Nat, vk = .int .i64 m ∧ m ≤ (J).length ∧ Below w6.heap.size w6 wq) (fun vk _ => (J).length - (intOf vk).toNat)
                  case atStart => exact ⟨0, rfl, Nat.zero_le _, HB8.out⟩
                  case round =>
                    clear HB8
                    obtain ⟨m, rfl, hm, hbq⟩ := hrel
                    by_cases hml : m < (J).length
                    · obtain ⟨a1, c1, e1, r1⟩ := (HRJ.out.below hbq).shape
                      obtain ⟨a2, c2, e2, r2⟩ := (HRT.out.below hbq).shape
                      cases e1
                      cases e2
                      have hml2 : m < (T2).length := by rw [HMIR.out.len]; exact hml
                      obtain ⟨g1, eg1, x1, _⟩ := r1 m hml
                      cases eg1
                      obtain ⟨g2, eg2, x2, _⟩ := r2 m hml2
                      cases eg2
                      have hft := HMIR.out.at_ m hml
                      have hlen := HMIR.out.len
                      have hjt : (J)[m] < top64 := by
                        rcases Nat.lt_or_ge (J)[m] top64 with h' | h'
                        · exact h'
                        · have h1 := HTK.out.big (J)[m] (Nat.not_lt.2 h')
                          have h2 := (HMIR.out.mem (J)[m]).1 (List.getElem_mem hml)
                          omega
                      have hto := fun n => top_tk (HTK.out.below (bel_drewN hbq n)) hjt
                      rw [hft] at hto
                      have HTO := Lib.hid hto
                      clear hto
                      obtain ⟨jm, hjm⟩ : ∃ jm, jm = (J)[m] := ⟨_, rfl⟩
                      obtain ⟨tm, htm⟩ : ∃ tm, tm = (T2)[m]'hml2 := ⟨_, rfl⟩
                      rw [← hjm] at x1 HTO
                      rw [← htm] at x2 HTO
                      have HBQ := Lib.hid hbq
                      clear r1 r2 hft hjt hjm htm hbq hlen
                      go_wp2_with fail
                      go_big_quiet (first | (go_at_call 12; refine Calls.quiet_of_same (HTO.out _)))
                      go_wp2_with fail
                      go_roundw
                      case rel => exact ⟨m + 1, by go_num, by omega, bel_drewN HBQ.out nq⟩
                      case measure => simp [intOf]; omega
                    · obtain rfl : m = (J).length := by omega
                      have HBQ := Lib.hid hbq
                      clear hbq hml hm
                      go_wp2_with fail
                      go_roundw
                      case rel => exact ⟨i + 1, k, b, note f job tok, J, T2, rfl, rfl, by go_num, by omega, ⟨⟨o5, rs ++ [(job, tok)], HTK.out.below HBQ.out, HRS.out, HTP.out, HRJ.out.below HBQ.out, HRT.out.below HBQ.out⟩, HMIR.out, HLEN.out, HAP.out, HBEL.out.trans (HBQ.out.mono HBEL.out.size), HUP.out, Nat.le_refl _⟩⟩
                      case measure => simp [intOf]; omega
      · have dk0 : (kind == 0) = false := by simpa using hk0
        have dk1 : (kind == 1) = false := by simpa using hk1
        have HSTAY := Lib.hid (show Stay wA o sa ss from ⟨fun i' hi' => by
          obtain ⟨gs, of, e1, e2, e3⟩ := HOMF.out.2.1 i' hi'
          have hw01 := HB1.out.size
          have hw1A := HBEL0.out.size
          refine ⟨gs, of, e1, by omega, ?_, (((HB1.out.trans (HBEL0.out.mono HB1.out.size)).cell (p := ⟨gs, of + i', none⟩) e2)).trans e3⟩
          cases h' : o gs with
          | none => rfl
          | some y => have h1 := (HTK0.out.owns gs (by rw [h']; simp)).1; omega, HOMF.out.2.2⟩)
        have HCR := Lib.hid (crash_tk HTK0.out.dk sa sc ss HSTAY.out b)
        rw [HWA.out] at HCR
        go_wp2_with fail
        refine HCR.out.mono ?_
        rintro e w4 ⟨rfl, o4, hd4, he4⟩
        rw [← HWA.out] at he4
        have HOP := Lib.hid (open_tk hd4 (by have := HRS0.out; omega))
        have HE4 := Lib.hid he4
        clear hd4 he4 HCR HSTAY
        go_wp2_with fail
        refine HOP.out.mono ?_
        rintro e w5 ⟨k5, b5, rfl, htk5, hb5, hk5, hbb5⟩
        have HBEL4 := Lib.hid (HBEL0.out.trans (HE4.out.below HBEL0.out.size HUP0.out (fun i' hi' => by
          cases h' : o i' with
          | none => rfl
          | some y => have h1 := (HTK0.out.owns i' (by rw [h']; simp)).1; omega)))
        have HTK := Lib.hid (show Tk w5 w1.heap.size (w1.heap.size + 1) o4 rs k5 b5 f (i + 1) from by
          rw [← HTP0.out]; exact htk5.mono (by have := HRS0.out; omega))
        have HRS := Lib.hid (show rs.length ≤ i + 1 by have := HRS0.out; omega)
        have HTP := HTP0
        have HRJ := Lib.hid ((HRJ0.out.eff HE4.out HTK0.out.isMap).below hb5)
        have HRT := Lib.hid ((HRT0.out.eff HE4.out HTK0.out.isMap).below hb5)
        have HMIR := HMIR0
        have HLEN := Lib.hid (show J.length ≤ i + 1 by have := HLEN0.out; omega)
        have HAP := HAP0
        have HBEL := Lib.hid (HBEL4.out.trans (hb5.mono HBEL4.out.size))
        have HUP := Lib.hid (show w1.heap.size ≤ b5 by have := HBEL4.out.size; omega)
        clear HOP htk5 hb5 hk5 hbb5 HE4 HTK0 HRS0 HTP0 HRJ0 HRT0 HMIR0 HLEN0 HAP0 HBEL0 HUP0 HOB h0 h1 h2 h3 h4 HBEL4
        have HJ := Lib.hid (jobs_tk HTK.out (by omega))
        go_wp2_with fail
        refine HJ.out.mono ?_
        rintro e w8 ⟨vK, K, rfl, hK, hrow8, hb8⟩
        have hcount := HMIR.out.count hK
        obtain ⟨ka, kc, rfl, _⟩ := slice_shape hrow8
        rw [hcount]
        have HB8 := Lib.hid hb8
        clear hrow8 hb8 hK hcount HJ
        go_wp2_with fail
        go_loopw [14] (fun vk wq => ∃ m : Nat, vk = .int .i64 m ∧ m ≤ (J).length ∧ Below w5.heap.size w5 wq) (fun vk _ => (J).length - (intOf vk).toNat)
        case atStart => exact ⟨0, rfl, Nat.zero_le _, HB8.out⟩
        case round =>
          clear HB8
          obtain ⟨m, rfl, hm, hbq⟩ := hrel
          by_cases hml : m < (J).length
          · obtain ⟨a1, c1, e1, r1⟩ := (HRJ.out.below hbq).shape
            obtain ⟨a2, c2, e2, r2⟩ := (HRT.out.below hbq).shape
            cases e1
            cases e2
            have hml2 : m < (T).length := by rw [HMIR.out.len]; exact hml
            obtain ⟨g1, eg1, x1, _⟩ := r1 m hml
            cases eg1
            obtain ⟨g2, eg2, x2, _⟩ := r2 m hml2
            cases eg2
            have hft := HMIR.out.at_ m hml
            have hlen := HMIR.out.len
            have hjt : (J)[m] < top64 := by
              rcases Nat.lt_or_ge (J)[m] top64 with h' | h'
              · exact h'
              · have h1 := HTK.out.big (J)[m] (Nat.not_lt.2 h')
                have h2 := (HMIR.out.mem (J)[m]).1 (List.getElem_mem hml)
                omega
            have hto := fun n => top_tk (HTK.out.below (bel_drewN hbq n)) hjt
            rw [hft] at hto
            have HTO := Lib.hid hto
            clear hto
            obtain ⟨jm, hjm⟩ : ∃ jm, jm = (J)[m] := ⟨_, rfl⟩
            obtain ⟨tm, htm⟩ : ∃ tm, tm = (T)[m]'hml2 := ⟨_, rfl⟩
            rw [← hjm] at x1 HTO
            rw [← htm] at x2 HTO
            have HBQ := Lib.hid hbq
            clear r1 r2 hft hjt hjm htm hbq hlen
            go_wp2_with fail
            go_big_quiet (first | (go_at_call 12; refine Calls.quiet_of_same (HTO.out _)))
            go_wp2_with fail
            go_roundw
            case rel => exact ⟨m + 1, by go_num, by omega, bel_drewN HBQ.out nq⟩
            case measure => simp [intOf]; omega
          · obtain rfl : m = (J).length := by omega
            have HBQ := Lib.hid hbq
            clear hbq hml hm
            go_wp2_with fail
            go_roundw
            case rel => exact ⟨i + 1, k5, b5, f, J, T, rfl, rfl, by go_num, by omega, ⟨⟨o4, rs, HTK.out.below HBQ.out, HRS.out, HTP.out, HRJ.out.below HBQ.out, HRT.out.below HBQ.out⟩, HMIR.out, HLEN.out, HAP.out, HBEL.out.trans (HBQ.out.mono HBEL.out.size), HUP.out, Nat.le_refl _⟩⟩
            case measure => simp [intOf]; omega
    · obtain rfl : i = l.length := by omega
      have HBE := Lib.hid (HB1.out.trans (hat.bel.mono HB1.out.size))
      clear hat
      go_wp2_with fail
      go_ret
      exact ⟨rfl, HBE.out⟩

end Go.Proofs.Ytjpbniajhkindaa
