/- The law on torn logs: its walk. -/
import Derived.Test.YtmfemedcjgeheaaGreatDoorLogA
import Derived.Test.YtmfemedcjgeheaaGreatDoorWhC
import Derived.Test.YtmfemedcjgeheaaGreatDoorRecA
import Derived.Deep.RegionHeld3
import Derived.IntWalk
namespace Go.Proofs.YtmfemedcjgeheaaGreatDoor
open Go.RowKit Go.Maps Go.Sort Dsk Wl

/-- a slice of slices of bytes that came in -/
def RowsF (w : World) (a : Option Addr) (ls : List (List Int)) : Prop := ∀ i (h : i < ls.length), ∃ b q A C, a = some ⟨b, q, none⟩ ∧ b < w.heap.size ∧ w.cell? ⟨b, q + i, none⟩ = some (.slice A ls[i].length C) ∧ Reads w A ls[i] ∧ (∀ x, A = some x → 0 < ls[i].length → x.block < w.heap.size) ∧ (A = none → C = 0)
theorem RowsF.below {w w' : World} {a : Option Addr} {ls : List (List Int)} (h : RowsF w a ls) (hb : Below w.heap.size w w') : RowsF w' a ls := fun i hi => by
  obtain ⟨b, q, A, C, h1, h2, h3, h4, h5, h6⟩ := h i hi
  exact ⟨b, q, A, C, h1, Nat.lt_of_lt_of_le h2 hb.size, (hb.cell (p := ⟨b, q + i, none⟩) h2).trans h3, h4.below hb, fun x hx hz => Nat.lt_of_lt_of_le (h5 x hx hz) hb.size, h6⟩

theorem flat_put (L : List (Nat × List Ent)) (e : Ent) : ((putL L e).map Prod.snd).flatten = (L.map Prod.snd).flatten ++ [e] := by
  by_cases hn : L = []
  · subst hn; rfl
  · obtain ⟨L, x, rfl⟩ : ∃ L' x, L = L' ++ [x] := ⟨L.dropLast, L.getLast hn, (List.dropLast_concat_getLast hn).symm⟩
    by_cases h8 : 8 ≤ x.2.length
    · rw [putL_full e h8]; simp
    · rw [putL_more e h8]; simp
theorem esTorn_ix : ∀ (i : Nat) (l : List (List Int)), ∀ e ∈ esTorn i l, i < e.ix ∧ e.ix ≤ i + l.length
  | _, [], e, h => by cases h
  | i, b :: r, e, h => by
    simp only [esTorn, List.mem_cons] at h
    rcases h with rfl | h
    · simp [eTorn]
    · have := esTorn_ix (i + 1) r e h
      simp; omega
theorem esTorn_last (l : List (List Int)) : lastIx (esTorn 0 l) = l.length := by
  rcases List.eq_nil_or_concat l with rfl | ⟨r, b, rfl⟩
  · rfl
  · rw [List.concat_eq_append, esTorn_snoc, lastIx_snoc]
    simp [eTorn]

theorem chain_es (l : List (List Int)) (hl : l.length < 1000) : chain [] (esTorn 0 l) = some (esTorn 0 l) := by
  have h : ∀ n, n ≤ l.length → chain [] (esTorn 0 (l.take n)) = some (esTorn 0 (l.take n)) := by
    intro n
    induction n with
    | zero => intro _; rfl
    | succ n ih =>
      intro hn
      have ht : (l.take n).length = n := by rw [List.length_take]; omega
      rw [List.take_add_one, List.getElem?_eq_getElem (by omega), Option.toList_some, esTorn_snoc, chain_snoc _ (ih (by omega)), Nat.zero_add]
      exact follow_next (fun x hx => by have := (esTorn_ix 0 _ x hx).2; omega) (by omega) (esTorn_last _) _
  have := h l.length (Nat.le_refl _)
  rwa [List.take_length] at this
theorem esTorn_take : ∀ (i : Nat) (l : List (List Int)) (j : Nat), (esTorn i l).take j = esTorn i (l.take j)
  | _, [], j => by simp [esTorn]
  | _, _ :: _, 0 => rfl
  | i, b :: r, j + 1 => by simp [esTorn, esTorn_take (i + 1) r j]

/-- what holds at the head of the first loop -/
structure AtPut (w0 w : World) (B g hb : Nat) (ls : List (List Int)) (sy : Int) (i : Nat) : Prop where
  all : ∃ o M N L c, Live w B o g M N ∧ WalAt w o hb g ∧ Log M L (esTorn 0 (ls.take i)) c ∧ (L.map Prod.snd).flatten = esTorn 0 (ls.take i) ∧ N ≤ i ∧ (curL L).num ≤ i ∧ (curL L).n ≤ 8 ∧ (min (i : Int) (sy + 1) ≤ (c : Int))
  bel : Below w0.heap.size w0 w

set_option maxRecDepth 100000 in
set_option maxHeartbeats 4000000 in
theorem walTorn_any (ls : List (List Int)) (a sa : Option Addr) (cp sc : Nat) (sy : Int) (ss : List Int) (w : World) {B0 : Nat} (hT : Tabs B0 w) (hB0 : B0 ≤ w.heap.size) (hr : RowsF w a ls) (hss : ∀ k (h : k < ss.length), ∃ gs of, sa = some ⟨gs, of, none⟩ ∧ gs < w.heap.size ∧ w.cell? ⟨gs, of + k, none⟩ = some (.int .i64 ss[k])) (hwf : ∀ x ∈ ss, -9223372036854775808 ≤ x ∧ x ≤ 9223372036854775807) (hsy : -9223372036854775808 ≤ sy ∧ sy ≤ 9223372036854775807) :
    Calls Tryz.prog 5 #[.slice a ls.length cp, .int .i64 sy, .slice sa ss.length sc] w fun r w' => r = .returned (.bool true) ∧ Below w.heap.size w w' := by
  have HKN := Lib.hid (known10_any w hT hB0)
  have HT := Lib.hid (hT.up hB0)
  have HR := Lib.hid hr
  have HSS := Lib.hid hss
  have HWF := Lib.hid hwf
  have HSY := Lib.hid hsy
  clear hT hB0 hr hss hwf hsy
  go_enter Tryz.func5, Tryz.ntmps5
  go_wp2_with fail
  refine HKN.out.mono ?_
  rintro r w1 ⟨rfl, hb1⟩
  have HB1 := Lib.hid hb1
  clear hb1 HKN
  by_cases hn : 40 < ls.length
  · have d1 : decide ((40 : Int) < (ls.length : Int)) = true := by simp; omega
    go_wp2_with fail
    go_ret
    exact ⟨rfl, HB1.out⟩
  · have d1 : decide ((40 : Int) < (ls.length : Int)) = false := by simp; omega
    by_cases hm : 20 < ss.length
    · have d2 : decide ((20 : Int) < (ss.length : Int)) = true := by simp; omega
      go_wp2_with fail
      go_ret
      exact ⟨rfl, HB1.out⟩
    · have d2 : decide ((20 : Int) < (ss.length : Int)) = false := by simp; omega
      have HNEW := Lib.hid (new_any w1)
      have HLN := Lib.hid (show ls.length ≤ 40 by omega)
      clear hn hm
      go_wp2_with fail
      refine HNEW.out.mono ?_
      rintro e w2 ⟨rfl, hb2, o2, hd2, ho2⟩
      have hl2 : Live w2 w1.heap.size o2 (w1.heap.size + 1) (fun _ => none) 0 := ⟨((HT.out.below HB1.out).up HB1.out.size).below hb2, hd2, hb2.size, fun l f hf => (by cases hf), by decide⟩
      have HOP := Lib.hid (open_whole hl2 Log.new.whole)
      have HL2 := Lib.hid hl2
      have HB2 := Lib.hid (HB1.out.trans (hb2.mono HB1.out.size))
      have HBB := Lib.hid hb2
      clear hl2 hd2 hb2 ho2 HNEW d1 d2
      go_wp2_with fail
      refine HOP.out.mono ?_
      rintro e w3 ⟨hb, o3, rfl, hge, hw3, hl3, hs3⟩
      have HST := Lib.hid (show AtPut w w3 w1.heap.size (w1.heap.size + 1) hb ls sy 0 from ⟨⟨o3, fun _ => none, 0, [], 0, hl3, hw3, by simpa [esTorn] using Log.new, rfl, Nat.le_refl _, Nat.le_refl _, by decide, by simp; omega⟩, HB2.out.trans ((hs3.below (fun k e => HL2.out.disk.owns k e) HL2.out.hB).mono HB1.out.size)⟩)
      clear hw3 hl3 hs3 HOP
      go_wp2_with fail
      go_loopw [10] (fun v wr => ∃ i : Nat, i ≤ ls.length ∧ v = .int .i64 (i : Int) ∧ AtPut w wr w1.heap.size (w1.heap.size + 1) hb ls sy i) (fun v _ => ls.length - (intOf v).toNat)
      case atStart => exact ⟨0, Nat.zero_le _, rfl, HST.out⟩
      case round =>
        clear HST
        obtain ⟨i, hi, rfl, hat⟩ := hrel
        have HBL := Lib.hid hat.bel
        obtain ⟨o, M, N, L, c, hl, hw, hG, hfl, hN, hk, hn8, hc⟩ := hat.all
        clear hat
        by_cases hin : i < ls.length
        · obtain ⟨b, q, A, C, rfl, hblt, hcell, hrd, hAlt, hAn⟩ := HR.out i hin
          have hcw := (HBL.out.cell (p := ⟨b, q + i, none⟩) hblt).trans hcell
          obtain ⟨zs, hzs⟩ : ∃ zs, zs = ls[i] := ⟨_, rfl⟩
          rw [← hzs] at hcw hrd hAlt
          have HZ := Lib.hid hzs
          have HRD := Lib.hid hrd
          have HAL := Lib.hid hAlt
          have HAN := Lib.hid hAn
          have HL := Lib.hid hl
          have HW := Lib.hid hw
          have HG := Lib.hid hG
          have HFL := Lib.hid hfl
          have HNN := Lib.hid (show N ≤ i ∧ (curL L).num ≤ i ∧ (curL L).n ≤ 8 from ⟨hN, hk, hn8⟩)
          have HCC := Lib.hid hc
          clear hcell hrd hzs hAlt hAn hl hw hG hfl hN hk hn8 hc
          by_cases h60 : 60 < zs.length
          · have d6 : decide ((60 : Int) < (zs.length : Int)) = true := by simp; omega
            go_wp2_with fail
            go_ret
            exact ⟨rfl, HBL.out⟩
          · have d6 : decide ((60 : Int) < (zs.length : Int)) = false := by simp; omega
            have HZL := Lib.hid (show zs.length ≤ 60 by omega)
            have hi40 : i < 40 := by have := HLN.out; omega
            clear h60
            go_wp2_with fail
            have hal : Below wr.heap.size wr (wr.alloc (.cells #[.int .u64 ((i : Int) + 1), .int .u64 ((i : Int) / 3), .slice A zs.length C] 55)) := (Below.refl _ _).alloc (Nat.le_refl _) _
            have hbk := heap_alloc_new wr (.cells #[.int .u64 ((i : Int) + 1), .int .u64 ((i : Int) / 3), .slice A zs.length C] 55)
            have e1 : ((i + 1 : Nat) : Int) = (i : Int) + 1 := by omega
            have e2 : ((i / 3 : Nat) : Int) = (i : Int) / 3 := by omega
            generalize wr.alloc (.cells #[.int .u64 ((i : Int) + 1), .int .u64 ((i : Int) / 3), .slice A zs.length C] 55) = w5 at *
            have hww : Below w.heap.size w wr := HBL.out
            have hw0B : w.heap.size ≤ w1.heap.size := HB1.out.size
            have hwr : w1.heap.size ≤ wr.heap.size := HL.out.hB
            have hes : EntsF w5 o w5.heap.size (some ⟨wr.heap.size, 0, none⟩) [eTorn i zs] := fun j hj => by
              obtain rfl : j = 0 := by simpa using hj
              refine ⟨wr.heap.size, 0, A, C, rfl, HL.out.free (Nat.le_refl _), lt_of_block hbk, Nat.le_refl _, ?_, ?_, ?_, ⟨(HRD.out.below hww).below hal, fun x hx hz => ⟨?_, ?_⟩⟩, HAN.out⟩
              · rw [cell_of_row _ _ _ _ _ _ hbk]; simp [eTorn, e1]
              · rw [cell_of_row _ _ _ _ _ _ hbk]; simp [eTorn]
              · rw [cell_of_row _ _ _ _ _ _ hbk]; simp [eTorn]
              · have hx1 := HAL.out x hx hz
                cases ho : o x.block with
                | none => rfl
                | some tg => have := (HL.out.disk.owns x.block (by rw [ho]; simp)).1; omega
              · have hx1 := HAL.out x hx hz
                have := hal.size
                omega
            have hok : (eTorn i zs).ok := ⟨by simp [eTorn], by simp [eTorn]; omega, by simp [eTorn]; omega, by simp [eTorn]; have := HZL.out; omega, HRD.out.hr⟩
            have htk : (ls.take i).length = i := by rw [List.length_take]; omega
            have hE1 : ∀ x ∈ esTorn 0 (ls.take i), x.ix < i + 1 := fun x hx => by have := (esTorn_ix 0 _ x hx).2; omega
            have hla : lastIx (esTorn 0 (ls.take i)) = i := by rw [esTorn_last, htk]
            have hfo := follow_next hE1 (by omega) hla zs
            have hsn : esTorn 0 (ls.take (i + 1)) = esTorn 0 (ls.take i) ++ [eTorn i zs] := by
              rw [List.take_add_one, List.getElem?_eq_getElem hin, Option.toList_some, esTorn_snoc, htk, Nat.zero_add, HZ.out]
            rw [← hsn] at hfo
            have HAP := Lib.hid (append_log (HL.out.below hal) HG.out hb (HW.out.below hal) _ 1 _ hes hok hfo (by rw [esTorn_len, htk]; omega) (by have := HNN.out; omega) (by have := HNN.out; omega) (by have := HNN.out; omega))
            have HSN := Lib.hid hsn
            have HAB := Lib.hid hal
            clear hes hok hE1 hla hfo hsn hal hbk e1 e2 hww hw0B hwr
            refine HAP.out.mono ?_
            rintro r w6 ⟨rfl, o6, N6, hl6, hs6, hg6, hn6⟩
            have hs56 := (Step.of_below o HAB.out).trans hs6
            have HL6 := Lib.hid hl6
            have HW6 := Lib.hid (HW.out.step hs56)
            have HG6 := Lib.hid hg6
            have hcu := curL_put L HG.out.whole.pos (eTorn i zs)
            have hnx := next_le (c := curL L) HNN.out.2.2
            have HN6 := Lib.hid (show N6 ≤ i + 1 ∧ (curL (putL L (eTorn i zs))).num ≤ i + 1 ∧ (curL (putL L (eTorn i zs))).n ≤ 8 by
              rw [hcu]
              have := HNN.out
              exact ⟨by omega, by dsimp only; omega, by dsimp only; exact hnx.2⟩)
            have hfl6 := flat_put L (eTorn i zs)
            rw [HFL.out, ← HSN.out] at hfl6
            have HF6 := Lib.hid hfl6
            have HB6 := Lib.hid (HBL.out.trans ((hs56.below (fun k e => HL.out.disk.owns k e) HL.out.hB).mono (HB1.out.size)))
            have HCT := Lib.hid (show count (putL L (eTorn i zs)) = i + 1 by unfold count; rw [hfl6, esTorn_len, List.length_take]; omega)
            clear hl6 hs6 hg6 hn6 hs56 hcu hnx hfl6 HAP HAB HL HW HG HFL HNN HSN hcw
            by_cases hsy : (i : Int) ≤ sy
            · have d7 : decide ((i : Int) ≤ sy) = true := by simpa using hsy
              go_wp2_with fail
              refine (sync_log HL6.out HG6.out hb HW6.out).mono ?_
              rintro r w7 ⟨rfl, o7, M7, hl7, hs7, hg7⟩
              have HL7 := Lib.hid hl7
              have HW7 := Lib.hid (HW6.out.step hs7)
              have HG7 := Lib.hid hg7
              have HB7 := Lib.hid (HB6.out.trans ((hs7.below (fun k e => HL6.out.disk.owns k e) HL6.out.hB).mono (HB1.out.size)))
              clear hl7 hs7 hg7 d7 hsy
              go_wp2_with fail
              go_roundw
              case rel => exact ⟨i + 1, hin, by go_num, ⟨o7, M7, N6, _, _, HL7.out, HW7.out, HG7.out, HF6.out, HN6.out.1, HN6.out.2.1, HN6.out.2.2, by rw [HCT.out]; omega⟩, HB7.out⟩
              case measure => simp [intOf]; omega
            · have d7 : decide ((i : Int) ≤ sy) = false := by simpa using hsy
              have HC6 := Lib.hid (show min (((i + 1 : Nat)) : Int) (sy + 1) ≤ (c : Int) by have := HCC.out; omega)
              clear hsy
              go_wp2_with fail
              go_roundw
              case rel => exact ⟨i + 1, hin, by go_num, ⟨o6, _, N6, _, _, HL6.out, HW6.out, HG6.out, HF6.out, HN6.out.1, HN6.out.2.1, HN6.out.2.2, HC6.out⟩, HB6.out⟩
              case measure => simp [intOf]; omega
        · obtain rfl : i = ls.length := by omega
          rw [List.take_length] at hG hfl
          have hst : Stay wr o sa ss := ⟨fun k hk9 => by
            obtain ⟨gs, of, h1, h2, h3⟩ := HSS.out k hk9
            refine ⟨gs, of, h1, Nat.lt_of_lt_of_le h2 HBL.out.size, ?_, (HBL.out.cell (p := ⟨gs, of + k, none⟩) h2).trans h3⟩
            cases ho : o gs with
            | none => rfl
            | some tg =>
              have := (hl.disk.owns gs (by rw [ho]; simp)).1
              have := HB1.out.size
              omega, HWF.out⟩
          have HCR := Lib.hid (crash_log hl hG sa sc ss hst)
          have HL := Lib.hid hl
          have HW := Lib.hid hw
          have HFL := Lib.hid hfl
          have HCC := Lib.hid hc
          clear hst hl hw hG hfl hN hk hn8 hc hin
          go_wp2_with fail
          refine HCR.out.mono ?_
          rintro r w4 ⟨rfl, o4, M1, hl4, hs4, hop⟩
          have HL4 := Lib.hid hl4
          have HOP4 := Lib.hid hop
          have HB4 := Lib.hid (HBL.out.trans ((hs4.below (fun k e => HL.out.disk.owns k e) HL.out.hB).mono HB1.out.size))
          clear hl4 hs4 hop HCR
          go_wp2_with fail
          refine (open_any HL4.out).mono ?_
          rintro r w5 ⟨ks5, hb5, o5, rfl, hks5, hge5, hw5, hd5, hs5⟩
          obtain ⟨L2, E2, j, hG2, hfl2, hcj, hjn, hfi⟩ := HOP4.out ks5 hks5
          have hT5 : Tame (openOf M1 ks5) := cutAll_tame HL4.out.tame _
          have hl5 := HL4.out.step hs5 hd5 hT5 HL4.out.few
          have HL5 := Lib.hid hl5
          have HW5 := Lib.hid hw5
          have HG5 := Lib.hid hG2
          have HB5 := Lib.hid (HB4.out.trans ((hs5.below (fun k e => HL4.out.disk.owns k e) HL4.out.hB).mono HB1.out.size))
          have hcl : count L = ls.length := by unfold count; rw [HFL.out, esTorn_len]
          have hE2 : E2 = esTorn 0 (ls.take j) := by
            have h1 := hG2.whole.ents
            rw [hfl2, HFL.out, esTorn_take, chain_es _ (by rw [List.length_take]; have := HLN.out; omega)] at h1
            exact (Option.some.inj h1).symm
          have HE2 := Lib.hid hE2
          have HJ := Lib.hid (show c ≤ j ∧ j ≤ ls.length from ⟨hcj, by omega⟩)
          have HFI := Lib.hid hfi
          clear hks5 hge5 hw5 hd5 hs5 hG2 hfl2 hcj hjn hfi hT5 hl5 hcl hE2 HOP4
          go_wp2_with fail
          refine (open_whole HL5.out HG5.out.whole).mono ?_
          rintro r w6 ⟨hb6, o6, rfl, hge6, hw6, hl6, hs6⟩
          have HL6 := Lib.hid hl6
          have HW6 := Lib.hid hw6
          have HW56 := Lib.hid (HW5.out.step hs6)
          have HB6 := Lib.hid (HB5.out.trans ((hs6.below (fun k e => HL5.out.disk.owns k e) HL5.out.hB).mono HB1.out.size))
          clear hge6 hw6 hl6 hs6
          go_wp2_with fail
          refine (entries_whole HL6.out HG5.out.whole hb5 HW56.out).mono ?_
          rintro r w7 ⟨va, rfl, hva, hb7⟩
          have HVA := Lib.hid hva
          have HL7 := Lib.hid (HL6.out.below hb7)
          have HB7 := Lib.hid (HB6.out.trans (hb7.mono HB6.out.size))
          have HW7 := Lib.hid (HW6.out.below hb7)
          clear hva hb7
          go_wp2_with fail
          refine (entries_whole HL7.out HG5.out.whole hb6 HW7.out).mono ?_
          rintro r w8 ⟨vb, rfl, hvb, hb8⟩
          have HVB := Lib.hid hvb
          have HVA8 := Lib.hid (HVA.out.below hb8)
          have HL8 := Lib.hid (HL7.out.below hb8)
          have HB8 := Lib.hid (HB7.out.trans (hb8.mono HB7.out.size))
          clear hvb hb8
          obtain ⟨aa, ca, rfl, -⟩ := HVA8.out.shape
          obtain ⟨ab, cb, rfl, -⟩ := HVB.out.shape
          have hlen : E2.length = j := by rw [HE2.out, esTorn_len, List.length_take]; have := HJ.out.2; omega
          rw [hlen]
          have hq1 : ¬ ls.length < j := by
            have := HJ.out.2
            omega
          have hq2 : decide ((j : Int) < min (ls.length : Int) (max 0 (wrap64 (sy + 1)))) = false := by
            have h1 := HJ.out.1
            have h2 := HCC.out
            have h3 := HSY.out
            exact decide_eq_false (by unfold wrap64; omega)
          go_wp2_with fail
          refine (loose_firm HL8.out HFI.out).mono ?_
          rintro r w9 ⟨al, cl, rfl, hb9⟩
          have HVA9 := Lib.hid (HVA8.out.below hb9)
          have HVB9 := Lib.hid (HVB.out.below hb9)
          have HB9 := Lib.hid (HB8.out.trans (hb9.mono HB8.out.size))
          clear hb9 hq1 hq2
          go_wp2_with fail
          have hj : E2.length = j := hlen
          clear hlen
          go_loopw [15] (fun v wr => ∃ k : Nat, k ≤ j ∧ v = .int .i64 (k : Int) ∧ Below w9.heap.size w9 wr) (fun v _ => j - (intOf v).toNat)
          case atStart => exact ⟨0, Nat.zero_le _, rfl, Below.refl _ _⟩
          case round =>
            obtain ⟨k, hk, rfl, hbk⟩ := hrel
            by_cases hkj : k < j
            · have hkn : k < ls.length := by have := HJ.out.2; omega
              have hwk : Below w.heap.size w wr := HB9.out.trans (hbk.mono HB9.out.size)
              obtain ⟨ga, cpa, a1, c1, hva, -, -, p0, p1, p2, pb, -, hcm1⟩ := (HVA9.out.below hbk).at_ (i := k) (by rw [hj]; exact hkj)
              obtain ⟨gb, cpb, a2, c2, hvb, -, -, q0, q1, q2, qb, -, hcm2⟩ := (HVB9.out.below hbk).at_ (i := k) (by rw [hj]; exact hkj)
              obtain ⟨b, q, A, C, rfl, hblt, hcell, hrd, -, -⟩ := HR.out k hkn
              have hcw := (hwk.cell (p := ⟨b, q + k, none⟩) hblt).trans hcell
              simp only [Value.slice.injEq] at hva hvb
              obtain ⟨rfl, -, rfl⟩ := hva
              obtain ⟨rfl, -, rfl⟩ := hvb
              have hx : E2[k]'(by rw [hj]; exact hkj) = eTorn k ls[k] := by
                have h1 : E2[k]'(by rw [hj]; exact hkj) = (esTorn 0 (ls.take j))[k]'(by rw [esTorn_len, List.length_take]; omega) := by simp only [HE2.out]
                rw [h1, esTorn_at 0 _ k (by rw [List.length_take]; omega), Nat.zero_add, List.getElem_take]
              rw [hx] at p0 p1 p2 pb q0 q1 q2 qb
              have e1 : ((k + 1 : Nat) : Int) = (k : Int) + 1 := by omega
              have e2 : ((k / 3 : Nat) : Int) = (k : Int) / 3 := by omega
              have C1 := Lib.hid (fun (W : World) (hW : Below wr.heap.size wr W) => same_ent (eTorn k ls[k]) (eTorn k ls[k]) a1 a2 c1 c2 W (pb.reads.1.below hW) (qb.reads.1.below hW))
              have C2 := Lib.hid (fun (W : World) (hW : Below wr.heap.size wr W) => same_ent (eTorn k ls[k]) (eTorn k ls[k]) a1 A c1 C W (pb.reads.1.below hW) ((hrd.below hwk).below hW))
              rw [show sameE (eTorn k ls[k]) (eTorn k ls[k]) = true from sameE_iff.2 rfl] at C1 C2
              simp only [eTorn, e1, e2] at p0 p1 p2 q0 q1 q2 C1 C2
              have hzl : ls[k].length = ls[k].length := rfl
              generalize ls[k].length = zl at *
              have hw1 : IntKind.i64.wrap ((k : Int) + 1) = (k : Int) + 1 := IntWalk.i64_in _ (by have := HLN.out; omega)
              have hw2 : IntKind.u64.wrap ((k : Int) + 1) = (k : Int) + 1 := by
                have := HLN.out
                simp [IntKind.wrap, IntKind.bits, IntKind.signed]
                omega
              have hw3 : IntKind.i64.wrap ((k : Int) / 3) = (k : Int) / 3 := IntWalk.i64_in _ (by have := HLN.out; omega)
              have hw4 : IntKind.u64.wrap ((k : Int) / 3) = (k : Int) / 3 := by
                have := HLN.out
                simp [IntKind.wrap, IntKind.bits, IntKind.signed]
                omega
              have HB := Lib.hid hwk
              have HK := Lib.hid hbk
              have hkj2 : (k : Int) < (j : Int) := by omega
              have hkn2 : (k : Int) < (ls.length : Int) := by omega
              clear hcell hrd pb qb hx e1 e2 hzl hwk hbk hcm1 hcm2
              go_wp2_with fail
              go_region_held3 (fun W => W.cell? ⟨ga, k * 3, none⟩ = some (.int .u64 ((k : Int) + 1)) ∧ W.cell? ⟨ga, k * 3 + 1, none⟩ = some (.int .u64 ((k : Int) / 3)) ∧ W.cell? ⟨ga, k * 3 + 2, none⟩ = some (.slice a1 zl c1) ∧ W.cell? ⟨gb, k * 3, none⟩ = some (.int .u64 ((k : Int) + 1)) ∧ W.cell? ⟨gb, k * 3 + 1, none⟩ = some (.int .u64 ((k : Int) / 3)) ∧ W.cell? ⟨gb, k * 3 + 2, none⟩ = some (.slice a2 zl c2) ∧ W.cell? ⟨b, q + k, none⟩ = some (.slice A zl C) ∧ Below wr.heap.size wr W)
                (first
                  | exact ⟨p0, p1, p2, q0, q1, q2, hcw, (Below.refl _ _).drew⟩
                  | go_keep
                  | (go_split_ands; exact ⟨stays hb9 (by assumption), stays hb9 (by assumption), stays hb9 (by assumption), stays hb9 (by assumption), stays hb9 (by assumption), stays hb9 (by assumption), stays hb9 (by assumption), Below.trans (by assumption) (hb9.mono (Below.size (by assumption)))⟩))
                (first
                  | (go_at_call 32; (try go_split_ands); with_reducible refine (C1.out _ (by assumption)).mono ?_; rintro e w99 ⟨rfl, hb9⟩)
                  | (go_at_call 32; (try go_split_ands); with_reducible refine (C2.out _ (by assumption)).mono ?_; rintro e w99 ⟨rfl, hb9⟩))
              rename_i hHeld
              have hBW : Below wr.heap.size wr _ := hHeld.2.2.2.2.2.2.2
              clear hw1 hw2 hw3 hw4
              have hj40 : j ≤ 40 := by have h1 := HJ.out.2; have h2 := HLN.out; omega
              go_wp2_with fail
              go_roundw
              case rel => exact ⟨k + 1, hkj, by go_num, HK.out.trans (hBW.mono HK.out.size)⟩
              case measure => simp [intOf]; omega
            · obtain rfl : k = j := by omega
              have HBK := Lib.hid (HB9.out.trans (hbk.mono HB9.out.size))
              clear hbk
              go_wp2_with fail
              go_ret
              exact ⟨rfl, HBK.out⟩
end Go.Proofs.YtmfemedcjgeheaaGreatDoor
