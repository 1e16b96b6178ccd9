/- The reference's May, by its contract. -/
import Derived.Test.YthbaldjdfehhlaaRefReach13
namespace Go.Proofs.Ythbaldjdfehhlaa
open Go.RowKit Gr

theorem long_yes {l : List NodeV} {i : Nat} (hi : i < l.length) (h : 8 < l[i].deps.length) : isLong (rowOf l) = true := by
  unfold isLong
  rw [Bool.or_eq_true, List.any_eq_true]
  exact .inr ⟨l[i].node, List.mem_map_of_mem (List.getElem_mem hi), decide_eq_true h⟩
theorem long_no {l : List NodeV} (h : l.length ≤ 64) (hd : ∀ i (hi : i < l.length), l[i].deps.length ≤ 8) : isLong (rowOf l) = false := by
  refine long_iff.2 ⟨by rw [rowOf_len]; exact h, fun n hn => ?_⟩
  obtain ⟨v, hv, rfl⟩ := List.mem_map.1 hn
  obtain ⟨i, hi, rfl⟩ := List.getElem_of_mem hv
  exact hd i hi
theorem twice_ids {l : List NodeV} {i : Nat} (hi : i < l.length) (h : l[i].id ∈ ids (rowOf (l.take i))) : hasTwice (rowOf l) = true := by
  unfold hasTwice
  rw [Bool.or_eq_true]
  refine .inl ?_
  simp only [Gr.twice, Bool.not_eq_true', decide_eq_false_iff_not]
  intro hn
  rw [rowOf_ids] at hn h
  obtain ⟨v, hv, he⟩ := List.mem_map.1 h
  obtain ⟨j, hj, hje⟩ := List.mem_take_iff_getElem.1 hv
  refine List.pairwise_iff_getElem.1 hn j i (by simp; omega) (by simpa using hi) (by omega) ?_
  simp [hje, he]
theorem twice_deps {l : List NodeV} {i : Nat} (hi : i < l.length) (h : Gr.twice l[i].deps = true) : hasTwice (rowOf l) = true := by
  unfold hasTwice
  rw [Bool.or_eq_true, List.any_eq_true]
  exact .inr ⟨l[i].node, List.mem_map_of_mem (List.getElem_mem hi), h⟩
theorem twice_no {l : List NodeV} (h1 : ∀ i (hi : i < l.length), l[i].id ∉ ids (rowOf (l.take i))) (h2 : ∀ i (hi : i < l.length), Gr.twice l[i].deps = false) : hasTwice (rowOf l) = false := by
  refine twice_iff.2 ⟨?_, fun n hn => ?_⟩
  · rw [rowOf_ids]
    refine List.pairwise_iff_getElem.2 fun j k hj hk hjk e => ?_
    simp only [List.length_map] at hj hk
    refine h1 k hk ?_
    rw [rowOf_ids]
    refine List.mem_map.2 ⟨l[j], List.mem_take_iff_getElem.2 ⟨j, by omega, rfl⟩, ?_⟩
    simpa using e
  · obtain ⟨v, hv, rfl⟩ := List.mem_map.1 hn
    obtain ⟨i, hi, rfl⟩ := List.getElem_of_mem hv
    have := h2 i hi
    simpa [Gr.twice, NodeV.node] using this
theorem stranger_yes {l : List NodeV} {i k : Nat} (hi : i < l.length) (hk : k < l[i].deps.length) (h : l[i].deps[k] ∉ ids (rowOf l)) : hasStranger (rowOf l) = true := by
  cases hs : hasStranger (rowOf l) with
  | true => rfl
  | false => exact absurd (stranger_iff.1 hs l[i].node (List.mem_map_of_mem (List.getElem_mem hi)) _ (List.getElem_mem hk)) h
theorem stranger_no {l : List NodeV} (h : ∀ i (hi : i < l.length), ∀ d ∈ l[i].deps, d ∈ ids (rowOf l)) : hasStranger (rowOf l) = false := by
  refine stranger_iff.2 fun n hn d hd => ?_
  obtain ⟨v, hv, rfl⟩ := List.mem_map.1 hn
  obtain ⟨i, hi, rfl⟩ := List.getElem_of_mem hv
  exact h i hi d hd
theorem may_long {L : Row} (h : isLong L = true) : mayOf L = 3 := by simp [mayOf, h]
theorem may_twice {L : Row} (h : isLong L = false) (h2 : hasTwice L = true) : mayOf L = 130 := by simp [mayOf, h, h2]
theorem may_stranger {L : Row} (h : isLong L = false) (h2 : hasTwice L = false) (h3 : hasStranger L = true) : mayOf L = 5 := by simp [mayOf, h, h2, h3]
theorem may_ring {L : Row} (h : isLong L = false) (h2 : hasTwice L = false) (h3 : hasStranger L = false) {a : Int} (p : Path L a a) : mayOf L = 131 := by
  have := (order_full (twice_iff.1 h2).1 (stranger_iff.1 h3)).2 ⟨a, p.head, p⟩
  simp [mayOf, h, h2, h3, this]
theorem may_ok {L : Row} (h : isLong L = false) (h2 : hasTwice L = false) (h3 : hasStranger L = false) (hp : ∀ n ∈ L, ¬ Path L n.1 n.1) : mayOf L = 0 := by
  have : ¬ (orderOf L).length < L.length := fun hl => by
    obtain ⟨a, ha, p⟩ := (order_full (twice_iff.1 h2).1 (stranger_iff.1 h3)).1 hl
    obtain ⟨n, hn, rfl⟩ := List.mem_map.1 ha
    exact hp n hn p
  simp [mayOf, h, h2, h3, this]

set_option maxRecDepth 100000 in
set_option maxHeartbeats 4000000 in
theorem refMay_any {w : World} {a : Option Addr} {l : List NodeV} {c : Nat} (hN : NodesF w a l) (hl : l.length ≤ 70) (hdl : ∀ v ∈ l, v.deps.length ≤ 12) (hcl : l.length ≤ c) (hcm : c ≤ maxLen) :
    Calls Try.prog 11 #[.slice a l.length c] w fun e w' => e = .returned (.int .i64 (mayOf (rowOf l))) ∧ Below w.heap.size w w' := by
  obtain ⟨r, hr⟩ : ∃ r, r = mayOf (rowOf l) := ⟨_, rfl⟩
  rw [← hr]
  have HR := Lib.hid hr
  clear hr
  by_cases h64 : l.length ≤ 64
  · have hg64 : decide ((64 : Int) < (l.length : Int)) = false := by simp; omega
    have HN := Lib.hid hN
    obtain ⟨⟨b0, q, ha, hc⟩, heach⟩ := hN
    have HA := Lib.hid ha
    have HC := Lib.hid hc
    have HE := Lib.hid heach
    have HD := Lib.hid hdl
    have hcm2 : c ≤ 9223372036854775807 := by unfold maxLen at hcm; omega
    clear ha hc heach hdl hcm
    go_enter Try.func11, Try.ntmps11
    go_wp2
    go_loopw [3] (fun v wr => Drew w wr ∧ ∃ i : Nat, v = .int .i64 (i : Int) ∧ i ≤ l.length ∧ ∀ j (hj : j < l.length), j < i → l[j].deps.length ≤ 8) (fun v _ => l.length - (intOf v).toNat)
    case atStart => exact ⟨Drew.refl _, 0, rfl, Nat.zero_le _, fun j _ hj => absurd hj (by omega)⟩
    case round =>
      obtain ⟨hb, i, rfl, hi, hall⟩ := hrel
      have HALL := Lib.hid hall
      have HB := Lib.hid hb
      clear hall hb
      by_cases hlt : i < l.length
      · obtain ⟨hg, hc1, hc2⟩ := HC.out i hlt
        have ea := HA.out (by intro e; subst e; simp at hlt)
        cases ea
        have hd1 := (HB.out.bel.cell (p := ⟨b0, q + i * 2, none⟩) hg).trans hc1
        have hd2 := (HB.out.bel.cell (p := ⟨b0, q + i * 2 + 1, none⟩) hg).trans hc2
        have hd : decide ((i : Int) < (l.length : Int)) = true := by simp; omega
        obtain ⟨v, hv⟩ : ∃ v, l[i] = v := ⟨_, rfl⟩
        rw [hv] at hd1 hd2
        have HV := Lib.hid hv
        clear hv hc1 hc2
        by_cases h8 : 8 < v.deps.length
        · have hg8 : decide ((8 : Int) < (v.deps.length : Int)) = true := by simp; omega
          go_wp2
          go_ret
          exact ⟨by rw [HR.out, may_long (long_yes hlt (by rw [HV.out]; exact h8))]; rfl, HB.out.bel⟩
        · have hg8 : decide ((8 : Int) < (v.deps.length : Int)) = false := by simp; omega
          go_wp2
          go_roundw
          case rel => exact ⟨HB.out, i + 1, by go_num, by omega, fun j hj hji => by
            rcases Nat.lt_or_ge j i with h1 | h1
            · exact HALL.out j hj h1
            · obtain rfl : j = i := by omega
              rw [HV.out]
              omega⟩
          case measure => simp [intOf]; omega
      · have hd : decide ((i : Int) < (l.length : Int)) = false := by simp; omega
        have hLN : isLong (rowOf l) = false := long_no h64 fun j hj => HALL.out j hj (by omega)
        have HLN := Lib.hid hLN
        clear hLN HALL
        have HB0 := HB
        clear HB
        go_wp2
        go_loopw [4] (fun v wr => Drew w wr ∧ ∃ i : Nat, v = .int .i64 (i : Int) ∧ i ≤ l.length ∧ (∀ j (hj : j < l.length), j < i → l[j].id ∉ ids (rowOf (l.take j))) ∧ ∀ j (hj : j < l.length), j < i → Gr.twice l[j].deps = false) (fun v _ => l.length - (intOf v).toNat)
        case atStart => exact ⟨HB0.out, 0, rfl, Nat.zero_le _, fun j _ hj => absurd hj (by omega), fun j _ hj => absurd hj (by omega)⟩
        case round =>
          clear hd hlt hi
          obtain ⟨hb, i, rfl, hi, hall, hall2⟩ := hrel
          have HALL := Lib.hid hall
          have HALL2 := Lib.hid hall2
          have HB := Lib.hid hb
          clear hall hall2 hb
          by_cases hlt : i < l.length
          · obtain ⟨hg, hc1, hc2⟩ := HC.out i hlt
            have ea := HA.out (by intro e; subst e; simp at hlt)
            cases ea
            have hd1 := (HB.out.bel.cell (p := ⟨b0, q + i * 2, none⟩) hg).trans hc1
            have hd2 := (HB.out.bel.cell (p := ⟨b0, q + i * 2 + 1, none⟩) hg).trans hc2
            have hd : decide ((i : Int) < (l.length : Int)) = true := by simp; omega
            have hv2 := HE.out l[i] (List.getElem_mem hlt)
            have hvd := HD.out l[i] (List.getElem_mem hlt)
            obtain ⟨v, hv⟩ : ∃ v, l[i] = v := ⟨_, rfl⟩
            rw [hv] at hd1 hd2 hv2 hvd
            have HV := Lib.hid hv
            have htl : (l.take i).length = i := by rw [List.length_take]; omega
            have hic : i ≤ c := by omega
            have hP : ∀ n, Calls Try.prog 22 #[.slice (some ⟨b0, q, none⟩) i c, .int .u64 v.id] (wr.drewN n) fun e w' => e = .returned (.int .i64 (placeOf (l.take i) 0 v.id)) ∧ w' = wr.drewN n := fun n => by
              have h := refPlace_any (c := c) ((HN.out.below (HB.out.more n).bel).take i) (by omega) v.id
              rw [htl] at h
              exact h
            have hT : ∀ n, Calls Try.prog 23 #[.slice v.da v.deps.length v.dc] (wr.drewN n) fun e w' => e = .returned (.bool (Gr.twice v.deps)) ∧ ∃ m, w' = wr.drewN m := fun n =>
              (refTwice_any (hv2.deps.below (HB.out.more n).bel) (by omega) hv2.cap hv2.big).mono fun e w' h => ⟨h.1, by obtain ⟨m, rfl⟩ := h.2; exact ⟨n + m, by simp [World.drewN, Nat.add_assoc]⟩⟩
            have hpl := placeOf_le (l := l.take i) (n := v.id) (k := 0)
            have hpt := placeOf_there (l := l.take i) (n := v.id) (k := 0)
            obtain ⟨p, hp⟩ : ∃ p, p = placeOf (l.take i) 0 v.id := ⟨_, rfl⟩
            obtain ⟨tw, htw⟩ : ∃ tw, tw = Gr.twice v.deps := ⟨_, rfl⟩
            rw [← hp] at hP hpl hpt
            rw [← htw] at hT
            have HP := Lib.hid hP
            have HT := Lib.hid hT
            have HPT := Lib.hid hpt
            have HTW := Lib.hid htw
            rw [htl] at hpl
            clear hP hT hpt htw hp hv hc1 hc2 hg htl hv2 hvd
            by_cases hp0 : 0 ≤ p
            · have hgp : decide (0 ≤ p) = true := by simp; omega
              go_wp2_with fail
              go_quiet (first | (go_at_call 22; exact Calls.quiet_of_same (HP.out _)) | (go_at_call 23; exact HT.out _))
              go_wp2
              go_ret
              exact ⟨by rw [HR.out, may_twice HLN.out (twice_ids hlt (by rw [HV.out]; exact HPT.out.1 hp0))]; rfl, (HB.out.more _).bel⟩
            · have hgp : decide (0 ≤ p) = false := by simp; omega
              cases tw with
              | true =>
                go_wp2_with fail
                go_quiet (first | (go_at_call 22; exact Calls.quiet_of_same (HP.out _)) | (go_at_call 23; exact HT.out _))
                go_wp2
                go_ret
                exact ⟨by rw [HR.out, may_twice HLN.out (twice_deps hlt (by rw [HV.out]; exact HTW.out.symm))]; rfl, (HB.out.more _).bel⟩
              | false =>
                go_wp2_with fail
                go_quiet (first | (go_at_call 22; exact Calls.quiet_of_same (HP.out _)) | (go_at_call 23; exact HT.out _))
                go_wp2
                go_roundw
                case rel => exact ⟨HB.out.more _, i + 1, by go_num, by omega, fun j hj hji => by
                  rcases Nat.lt_or_ge j i with h1 | h1
                  · exact HALL.out j hj h1
                  · obtain rfl : j = i := by omega
                    rw [HV.out]
                    exact fun h => by have := HPT.out.2 h; omega, fun j hj hji => by
                  rcases Nat.lt_or_ge j i with h1 | h1
                  · exact HALL2.out j hj h1
                  · obtain rfl : j = i := by omega
                    rw [HV.out]
                    exact HTW.out.symm⟩
                case measure => simp [intOf]; omega
          · have hd : decide ((i : Int) < (l.length : Int)) = false := by simp; omega
            have hTN : hasTwice (rowOf l) = false := twice_no (fun j hj => HALL.out j hj (by omega)) fun j hj => HALL2.out j hj (by omega)
            have HTN := Lib.hid hTN
            clear hTN HALL HALL2
            have HB1 := HB
            clear HB HB0
            go_wp2
            go_loopw [5] (fun v wr => Drew w wr ∧ ∃ i : Nat, v = .int .i64 (i : Int) ∧ i ≤ l.length ∧ ∀ j (hj : j < l.length), j < i → ∀ d ∈ l[j].deps, d ∈ ids (rowOf l)) (fun v _ => l.length - (intOf v).toNat)
            case atStart => exact ⟨HB1.out, 0, rfl, Nat.zero_le _, fun j _ hj => absurd hj (by omega)⟩
            case round =>
              clear hd hlt hi
              obtain ⟨hb, i, rfl, hi, hall⟩ := hrel
              have HALL := Lib.hid hall
              have HB := Lib.hid hb
              clear hall hb
              by_cases hlt : i < l.length
              · obtain ⟨hg, hc1, hc2⟩ := HC.out i hlt
                have ea := HA.out (by intro e; subst e; simp at hlt)
                cases ea
                have hd : decide ((i : Int) < (l.length : Int)) = true := by simp; omega
                have hv2 := HE.out l[i] (List.getElem_mem hlt)
                have hvd := HD.out l[i] (List.getElem_mem hlt)
                obtain ⟨⟨vid, vda, vdc, vdeps⟩, hv⟩ : ∃ v, l[i] = v := ⟨_, rfl⟩
                rw [hv] at hc1 hc2 hv2 hvd
                have HV := Lib.hid hv
                have HV2 := Lib.hid hv2
                have HC1 := Lib.hid hc1
                have HC2 := Lib.hid hc2
                have hlt2 := Lib.hid hlt
                clear hv hv2 hc1 hc2
                go_wp2
                clear hd
                go_loopw [6] (fun v wr => Drew w wr ∧ ∃ k : Nat, v = .int .i64 (k : Int) ∧ k ≤ vdeps.length ∧ ∀ d ∈ vdeps.take k, d ∈ ids (rowOf l)) (fun v _ => vdeps.length - (intOf v).toNat)
                case atStart => exact ⟨HB.out, 0, rfl, Nat.zero_le _, fun d hd => by simp at hd⟩
                case round =>
                  clear HB
                  obtain ⟨hb, k, rfl, hk, hpart⟩ := hrel
                  have HB := Lib.hid hb
                  have HPART := Lib.hid hpart
                  have hd1 := (HB.out.bel.cell (p := ⟨b0, q + i * 2, none⟩) hg).trans HC1.out
                  have hd2 := (HB.out.bel.cell (p := ⟨b0, q + i * 2 + 1, none⟩) hg).trans HC2.out
                  have hdi : decide ((i : Int) < (l.length : Int)) = true := by have := hlt2.out; simp; omega
                  have hin : i < l.length := hlt2.out
                  clear hb hpart
                  by_cases hkt : k < vdeps.length
                  · obtain ⟨⟨dg, dq, hda, hdc⟩, hdf⟩ := HV2.out.deps
                    obtain ⟨hdg, hdx⟩ := hdc k hkt
                    have ed := hda (by intro e; simp only at e; subst e; simp at hkt)
                    simp only at ed
                    cases ed
                    have hd3 := (HB.out.bel.cell (p := ⟨dg, dq + k, none⟩) hdg).trans hdx
                    have htk : vdeps.take (k + 1) = vdeps.take k ++ [vdeps[k]] := List.take_succ_eq_append_getElem hkt
                    obtain ⟨d, hdd⟩ : ∃ d, vdeps[k] = d := ⟨_, rfl⟩
                    simp only [hdd] at hd3 htk hdx
                    have HDD := Lib.hid (show ∃ h : k < l[i].deps.length, l[i].deps[k] = d from by
                      refine ⟨by rw [HV.out]; exact hkt, ?_⟩
                      simp only [HV.out]
                      exact hdd)
                    have hdk : decide ((k : Int) < (vdeps.length : Int)) = true := by simp; omega
                    have hP := refPlace_any (c := c) (HN.out.below HB.out.bel) (by omega) d
                    have hpl := placeOf_le (l := l) (n := d) (k := 0)
                    have hpt := placeOf_there (l := l) (n := d) (k := 0)
                    obtain ⟨p, hp⟩ : ∃ p, p = placeOf l 0 d := ⟨_, rfl⟩
                    rw [← hp] at hP hpl hpt
                    have HP := Lib.hid hP
                    have HPT := Lib.hid hpt
                    have HTK := Lib.hid htk
                    clear hda hdc hdf hdx hdd hdg hP hpt hp htk
                    by_cases hp0 : 0 ≤ p
                    · have hgp : decide (p < 0) = false := by simp; omega
                      go_wp2_with fail
                      refine HP.out.mono ?_
                      rintro e w1 ⟨rfl, rfl⟩
                      go_wp2
                      go_roundw
                      case rel => exact ⟨HB.out, k + 1, by go_num, by omega, fun x hx => by
                        rw [HTK.out] at hx
                        rcases List.mem_append.1 hx with hx | hx
                        · exact HPART.out x hx
                        · simp at hx
                          subst hx
                          exact HPT.out.1 (by omega)⟩
                      case measure => simp [intOf]; omega
                    · have hgp : decide (p < 0) = true := by simp; omega
                      go_wp2_with fail
                      refine HP.out.mono ?_
                      rintro e w1 ⟨rfl, rfl⟩
                      go_wp2
                      go_ret
                      obtain ⟨h1, h2⟩ := HDD.out
                      exact ⟨by rw [HR.out, may_stranger HLN.out HTN.out (stranger_yes hin h1 (by rw [h2]; exact fun h => by have := HPT.out.2 h; omega))]; rfl, HB.out.bel⟩
                  · have hdk : decide ((k : Int) < (vdeps.length : Int)) = false := by simp; omega
                    go_wp2
                    go_roundw
                    case rel => exact ⟨HB.out, i + 1, by go_num, by omega, fun j hj hji => by
                      rcases Nat.lt_or_ge j i with h1 | h1
                      · exact HALL.out j hj h1
                      · obtain rfl : j = i := by omega
                        rw [HV.out]
                        have := HPART.out
                        rw [List.take_of_length_le (by omega)] at this
                        exact this⟩
                    case measure => simp [intOf]; omega
              · have hd : decide ((i : Int) < (l.length : Int)) = false := by simp; omega
                have hSN : hasStranger (rowOf l) = false := stranger_no fun j hj => HALL.out j hj (by omega)
                have HSN := Lib.hid hSN
                clear hSN HALL
                have HB2 := Lib.hid HB.out.bel
                clear HB HB1
                go_wp2
                go_loopw [7] (fun v wr => Below w.heap.size w wr ∧ ∃ i : Nat, v = .int .i64 (i : Int) ∧ i ≤ l.length ∧ ∀ j (hj : j < l.length), j < i → ¬ Path (rowOf l) l[j].id l[j].id) (fun v _ => l.length - (intOf v).toNat)
                case atStart => exact ⟨HB2.out, 0, rfl, Nat.zero_le _, fun j _ hj => absurd hj (by omega)⟩
                case round =>
                  clear hd hlt hi
                  obtain ⟨hb, i, rfl, hi, hall⟩ := hrel
                  have HALL := Lib.hid hall
                  have HB := Lib.hid hb
                  clear hall hb HB2
                  by_cases hlt : i < l.length
                  · obtain ⟨hg, hc1, hc2⟩ := HC.out i hlt
                    have ea := HA.out (by intro e; subst e; simp at hlt)
                    cases ea
                    have hd1 := (HB.out.cell (p := ⟨b0, q + i * 2, none⟩) hg).trans hc1
                    have hd : decide ((i : Int) < (l.length : Int)) = true := by simp; omega
                    have hv2 := HE.out l[i] (List.getElem_mem hlt)
                    obtain ⟨v, hv⟩ : ∃ v, l[i] = v := ⟨_, rfl⟩
                    rw [hv] at hd1 hv2
                    have HV := Lib.hid hv
                    have HRE := Lib.hid (fun W (h : Below wr.heap.size wr W) => refReach_any (c := c) ((HN.out.below HB.out).below h) hl HD.out v.id v.id hv2.id)
                    clear hv hc1 hc2 hv2
                    go_wp2_with fail
                    go_region_held3 (fun W => W.cell? ⟨b0, q + i * 2, none⟩ = some (.int .u64 v.id) ∧ Below wr.heap.size wr W)
                      (first
                        | exact ⟨hd1, (Below.refl _ _).drew⟩
                        | go_keep
                        | (go_split_ands; exact ⟨stays hb9 (by assumption), Below.trans (by assumption) (hb9.mono (Below.size (by assumption)))⟩))
                      (first
                        | (go_at_call 16; (try go_split_ands); with_reducible refine (HRE.out _ (by assumption)).mono ?_; rintro e w9 ⟨b9, rfl, hi9, hb9⟩))
                    have hbw9 : Below wr.heap.size wr w9 := by (try go_split_ands); assumption
                    have HB9 := Lib.hid (HB.out.trans (hbw9.mono HB.out.size))
                    have HI9 := Lib.hid hi9
                    clear hi9 hb9 hbw9
                    cases b9 with
                    | true =>
                      go_wp2
                      go_ret
                      exact ⟨by rw [HR.out, may_ring HLN.out HTN.out HSN.out (HI9.out.1 (by first | rfl | trivial)).2]; rfl, HB9.out⟩
                    | false =>
                      go_wp2
                      go_roundw
                      case rel => exact ⟨HB9.out, i + 1, by go_num, by omega, fun j hj hji => by
                        rcases Nat.lt_or_ge j i with h1 | h1
                        · exact HALL.out j hj h1
                        · obtain rfl : j = i := by omega
                          rw [HV.out]
                          intro p
                          have := HI9.out.2 ⟨h64, p⟩
                          cases this⟩
                      case measure => simp [intOf]; omega
                  · have hd : decide ((i : Int) < (l.length : Int)) = false := by simp; omega
                    go_wp2
                    go_ret
                    have : mayOf (rowOf l) = 0 := may_ok HLN.out HTN.out HSN.out fun n hn => by
                      obtain ⟨v, hv, rfl⟩ := List.mem_map.1 hn
                      obtain ⟨j, hj, rfl⟩ := List.getElem_of_mem hv
                      exact HALL.out j hj (by omega)
                    exact ⟨by rw [HR.out, this]; rfl, HB.out⟩
  · have hg64 : decide ((64 : Int) < (l.length : Int)) = true := by simp; omega
    clear hN
    go_enter Try.func11, Try.ntmps11
    go_wp2
    go_ret
    have : isLong (rowOf l) = true := by
      unfold isLong
      rw [rowOf_len, Bool.or_eq_true]
      exact .inl (by simp; omega)
    exact ⟨by rw [HR.out, may_long this]; rfl, Below.refl _ _⟩

end Go.Proofs.Ythbaldjdfehhlaa
