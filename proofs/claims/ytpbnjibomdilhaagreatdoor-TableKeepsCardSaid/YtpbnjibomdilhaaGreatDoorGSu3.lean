/- slices.Sort at []uint64, fourth part: partialInsertionSort, by its contract. -/
import Derived.Test.YtpbnjibomdilhaaGreatDoorGSu2
import Derived.Sort.WalkA6
namespace Go.Proofs.YtpbnjibomdilhaaGreatDoor.Gph
open Go.RowKit Go.Sort

set_option maxHeartbeats 12800000 in
set_option maxRecDepth 100000 in
theorem partial_u (blk off cap len a b : Nat) (d : Array Int) (w : World) (hlen : d.size = len) (hH : Holds encU w blk off d) (hab : a < b) (hb : b ≤ len) (hsz : len < 4611686018427387904) :
    Calls Tryz.prog 77 #[.slice (some ⟨blk, off, none⟩) len cap, .int .i64 a, .int .i64 b] w fun e w' =>
      e = .returned (.bool (partialInsertionSort ltInt d a b).2) ∧ ∃ n, Lies w blk off d n (partialInsertionSort ltInt d a b).1 w' := by
  subst hlen
  have HH := Lib.hid hH
  have HL0 := Lib.hid (Lies.start hH)
  clear hH
  go_enter Tryz.func77, Tryz.ntmps77
  go_wp2
  go_loopw [7, 8] (fun vi vs wr => ∃ (i s n : Nat) (dk : Array Int), vi = .int .i64 i ∧ vs = .int .i64 s ∧ a < i ∧ i ≤ b ∧ s ≤ 5 ∧ Lies w blk off d n dk wr ∧ partialIns ltInt a b (5 - s) i dk = partialInsertionSort ltInt d a b) (fun _ vs _ => 5 - (intOf vs).toNat)
  case atStart => exact ⟨a + 1, 0, 0, d, by go_num, rfl, by omega, by omega, by omega, HL0.out, rfl⟩
  case round =>
    obtain ⟨i, s, n, dk, rfl, rfl, hai, hib, hs5, hl, hq⟩ := hrel
    obtain ⟨G, hG⟩ : ∃ G : Nat → Int, ∀ t, G t = dk[t]! := ⟨fun t => dk[t]!, fun _ => rfl⟩
    have HG := Lib.hid hG
    have HL := Lib.hid hl
    have HQ := Lib.hid hq
    clear hG hl hq
    by_cases hs : s < 5
    · go_wp2
      go_loopw [7] (fun vi w1 => ∃ (i' n1 : Nat), vi = .int .i64 i' ∧ i ≤ i' ∧ i' ≤ b ∧ Lies w blk off d n1 dk w1 ∧ Hid (scanSorted ltInt dk b i' = scanSorted ltInt dk b i)) (fun vi _ => b - (intOf vi).toNat)
      case atStart => exact ⟨i, _, rfl, Nat.le_refl _, hib, HL.out, Lib.hid rfl⟩
      case round =>
        obtain ⟨i', n1, rfl, hii, hib', hl1, hsc⟩ := hrel
        have hcw := hl1.cells HH.out HG.out
        have HL1 := Lib.hid hl1
        clear hl1
        by_cases hle : i' < b
        · have hne : ((i' : Int) == (b : Int)) = false := by simp; omega
          by_cases h50 : b - a < 50
          · have h50z : decide ((b : Int) - (a : Int) < 50) = true := decide_eq_true (by omega)
            go_wp2_with fail
            go_big_quiet (first | (go_at_call 78; refine Calls.quiet_of_same (less_u _ _ _)))
            go_wp2
            · have ht : (!ltInt (G i') (G (i' - 1))) = true := by assumption
              go_roundw
              case rel => exact ⟨i' + 1, n1 + nq, by go_num, by omega, by omega, HL1.out.more nq, Lib.hid ((scanSorted_go ltInt dk b i' hle (by rw [← HG.out, ← HG.out]; simpa using ht)).symm.trans hsc.out)⟩
              case measure => simp [intOf]; omega
            · have ht : (!ltInt (G i') (G (i' - 1))) = false := by assumption
              have hi2 := Lib.hid (show scanSorted ltInt dk b i = i' from hsc.out.symm.trans (scanSorted_stop ltInt dk b i' (.inr (by rw [← HG.out, ← HG.out]; simpa using ht))))
              go_ret
              have e := pi_short ltInt a b s i dk hs (by rw [hi2.out]; omega) h50
              exact ⟨by rw [← HQ.out, e]; rfl, _, by rw [← HQ.out, e]; exact HL1.out.more nq⟩
          · have h50z : decide ((b : Int) - (a : Int) < 50) = false := decide_eq_false (by omega)
            go_wp2_with fail
            go_big_quiet (first | (go_at_call 78; refine Calls.quiet_of_same (less_u _ _ _)))
            go_wp2
            · have ht : (!ltInt (G i') (G (i' - 1))) = true := by assumption
              go_roundw
              case rel => exact ⟨i' + 1, n1 + nq, by go_num, by omega, by omega, HL1.out.more nq, Lib.hid ((scanSorted_go ltInt dk b i' hle (by rw [← HG.out, ← HG.out]; simpa using ht)).symm.trans hsc.out)⟩
              case measure => simp [intOf]; omega
            · have ht : (!ltInt (G i') (G (i' - 1))) = false := by assumption
              have hi2 := Lib.hid (show scanSorted ltInt dk b i = i' from hsc.out.symm.trans (scanSorted_stop ltInt dk b i' (.inr (by rw [← HG.out, ← HG.out]; simpa using ht))))
              have hl2 := HL1.out.more nq
              clear hcw HL1 hsc ht
              generalize wr.drewN nq = w2 at hl2 ⊢
              have HN := Lib.hid (pi_go ltInt a b s i i' dk hs hi2.out (by omega) h50)
              have hc2 := hl2.cells HH.out HG.out
              have hf2 := hl2.melts HH.out
              have hl3 := hl2.swap 1 i' (i' - 1) (by omega) (by omega)
              rw [← HG.out, ← HG.out] at hl3
              have HL3 := Lib.hid hl3
              clear hl3 hi2 hl2
              by_cases hu : b - i' ≥ 2
              · have huz : (2 : Int) ≤ (b : Int) - (i' : Int) := by omega
                by_cases hdn : i' - a ≥ 2
                · have hdz : (2 : Int) ≤ (i' : Int) - (a : Int) := by omega
                  go_region
                  all_goals go_wp2
                  go_loopw [9] (fun vj w4 => ∃ (j n4 : Nat) (dj : Array Int), vj = .int .i64 j ∧ j < i' ∧ Lies w blk off d n4 dj w4 ∧ Hid (shiftDown ltInt j dj = shiftDown ltInt (i' - 1) (swp dk i' (i' - 1)))) (fun vj _ => (intOf vj).toNat)
                  case atStart => exact ⟨i' - 1, _, swp dk i' (i' - 1), by go_num, by omega, HL3.out, Lib.hid rfl⟩
                  case round =>
                    clear HL3 hc2 hf2
                    obtain ⟨j, n4, dj, rfl, hji, hl4, hsd⟩ := hrel
                    obtain ⟨G4, hG4⟩ : ∃ G : Nat → Int, ∀ t, G t = dj[t]! := ⟨fun t => dj[t]!, fun _ => rfl⟩
                    have HG4 := Lib.hid hG4
                    have hcw := hl4.cells HH.out hG4
                    have hfw := hl4.melts HH.out
                    have HL4 := Lib.hid hl4
                    clear hl4 hG4
                    by_cases hj1 : 1 ≤ j
                    · go_wp2
                      go_big_quiet (first | (go_at_call 78; refine Calls.quiet_of_same (less_u _ _ _)))
                      go_wp2
                      · have ht : (!ltInt (G4 j) (G4 (j - 1))) = true := by assumption
                        obtain ⟨dD, hdD⟩ : ∃ dD, dD = dj := ⟨_, rfl⟩
                        rw [← hdD] at HL4
                        have HFD := Lib.hid (show dD = fixDown ltInt a i' (swp dk i' (i' - 1)) by rw [hdD, fixDown, if_pos hdn, ← hsd.out, shiftDown_stop ltInt j dj (.inr (by rw [← HG4.out, ← HG4.out]; simpa using ht))])
                        have HLD := Lib.hid (HL4.out.more nq)
                        clear hcw hfw HL4 hsd ht hdD
                        generalize wr.drewN nq = wD at HLD ⊢
                        go_loopw [10] (fun vj w5 => ∃ (j n5 : Nat) (dj : Array Int), vj = .int .i64 j ∧ i' < j ∧ j ≤ b ∧ Lies w blk off d n5 dj w5 ∧ Hid (shiftUp ltInt b j dj = shiftUp ltInt b (i' + 1) dD)) (fun vj _ => b - (intOf vj).toNat)
                        case atStart => exact ⟨i' + 1, _, dD, by go_num, by omega, by omega, HLD.out, Lib.hid rfl⟩
                        case round =>
                          obtain ⟨j, n5, dj, rfl, hij, hjb, hl5, hsu⟩ := hrel
                          obtain ⟨G5, hG5⟩ : ∃ G : Nat → Int, ∀ t, G t = dj[t]! := ⟨fun t => dj[t]!, fun _ => rfl⟩
                          have HG5 := Lib.hid hG5
                          have hcw := hl5.cells HH.out hG5
                          have hfw := hl5.melts HH.out
                          have HL5 := Lib.hid hl5
                          clear hl5 hG5
                          by_cases hjl : j < b
                          · go_wp2
                            go_big_quiet (first | (go_at_call 78; refine Calls.quiet_of_same (less_u _ _ _)))
                            go_wp2
                            · have ht : (!ltInt (G5 j) (G5 (j - 1))) = true := by assumption
                              have HFU := Lib.hid (show dj = fixUp ltInt b i' dD by rw [fixUp, if_pos hu, ← hsu.out, shiftUp_stop ltInt b j dj (.inr (by rw [← HG5.out, ← HG5.out]; simpa using ht))])
                              have HLU := Lib.hid (HL5.out.more nq)
                              clear hcw hfw HL5 hsu ht
                              go_roundw
                              case rel => exact ⟨i', s + 1, _, _, by go_num, by go_num, by omega, by omega, by omega, HLU.out, by rw [← HQ.out, HN.out, ← HFD.out, ← HFU.out]⟩
                              case measure => simp [intOf]; omega
                            · have ht : (!ltInt (G5 j) (G5 (j - 1))) = false := by assumption
                              have hl6 := HL5.out.more nq
                              clear hcw hfw HL5
                              generalize wr.drewN nq = w6 at hl6 ⊢
                              have hc6 := hl6.cells HH.out HG5.out
                              have hf6 := hl6.melts HH.out
                              have hl7 := hl6.swap 1 j (j - 1) (by omega) (by omega)
                              rw [← HG5.out, ← HG5.out] at hl7
                              have HL7 := Lib.hid hl7
                              clear hl6 hl7
                              go_region
                              all_goals go_wp2
                              go_roundw
                              case rel => exact ⟨j + 1, _, swp dj j (j - 1), by go_num, by omega, by omega, HL7.out, Lib.hid ((shiftUp_go ltInt b j dj hjl (by rw [← HG5.out, ← HG5.out]; simpa using ht)).symm.trans hsu.out)⟩
                              case measure => simp [intOf]; omega
                          · have HFU := Lib.hid (show dj = fixUp ltInt b i' dD by rw [fixUp, if_pos hu, ← hsu.out, shiftUp_stop ltInt b j dj (.inl hjl)])
                            have HLU := HL5
                            clear hcw hfw HL5 hsu
                            go_wp2
                            go_roundw
                            case rel => exact ⟨i', s + 1, _, _, by go_num, by go_num, by omega, by omega, by omega, HLU.out, by rw [← HQ.out, HN.out, ← HFD.out, ← HFU.out]⟩
                            case measure => simp [intOf]; omega
                      · have ht : (!ltInt (G4 j) (G4 (j - 1))) = false := by assumption
                        have hl6 := HL4.out.more nq
                        clear hcw hfw HL4
                        generalize wr.drewN nq = w6 at hl6 ⊢
                        have hc6 := hl6.cells HH.out HG4.out
                        have hf6 := hl6.melts HH.out
                        have hl7 := hl6.swap 1 j (j - 1) (by omega) (by omega)
                        rw [← HG4.out, ← HG4.out] at hl7
                        have HL7 := Lib.hid hl7
                        clear hl6 hl7
                        go_region
                        all_goals go_wp2
                        go_roundw
                        case rel => exact ⟨j - 1, _, swp dj j (j - 1), by go_num, by omega, HL7.out, Lib.hid ((shiftDown_go ltInt j dj hj1 (by rw [← HG4.out, ← HG4.out]; simpa using ht)).symm.trans hsd.out)⟩
                        case measure => simp [intOf]; omega
                    · obtain ⟨dD, hdD⟩ : ∃ dD, dD = dj := ⟨_, rfl⟩
                      rw [← hdD] at HL4
                      have HFD := Lib.hid (show dD = fixDown ltInt a i' (swp dk i' (i' - 1)) by rw [hdD, fixDown, if_pos hdn, ← hsd.out, shiftDown_stop ltInt j dj (.inl (by omega))])
                      have HLD := HL4
                      clear hcw hfw HL4 hsd hdD
                      go_wp2
                      go_loopw [10] (fun vj w5 => ∃ (j n5 : Nat) (dj : Array Int), vj = .int .i64 j ∧ i' < j ∧ j ≤ b ∧ Lies w blk off d n5 dj w5 ∧ Hid (shiftUp ltInt b j dj = shiftUp ltInt b (i' + 1) dD)) (fun vj _ => b - (intOf vj).toNat)
                      case atStart => exact ⟨i' + 1, _, dD, by go_num, by omega, by omega, HLD.out, Lib.hid rfl⟩
                      case round =>
                        obtain ⟨j, n5, dj, rfl, hij, hjb, hl5, hsu⟩ := hrel
                        obtain ⟨G5, hG5⟩ : ∃ G : Nat → Int, ∀ t, G t = dj[t]! := ⟨fun t => dj[t]!, fun _ => rfl⟩
                        have HG5 := Lib.hid hG5
                        have hcw := hl5.cells HH.out hG5
                        have hfw := hl5.melts HH.out
                        have HL5 := Lib.hid hl5
                        clear hl5 hG5
                        by_cases hjl : j < b
                        · go_wp2
                          go_big_quiet (first | (go_at_call 78; refine Calls.quiet_of_same (less_u _ _ _)))
                          go_wp2
                          · have ht : (!ltInt (G5 j) (G5 (j - 1))) = true := by assumption
                            have HFU := Lib.hid (show dj = fixUp ltInt b i' dD by rw [fixUp, if_pos hu, ← hsu.out, shiftUp_stop ltInt b j dj (.inr (by rw [← HG5.out, ← HG5.out]; simpa using ht))])
                            have HLU := Lib.hid (HL5.out.more nq)
                            clear hcw hfw HL5 hsu ht
                            go_roundw
                            case rel => exact ⟨i', s + 1, _, _, by go_num, by go_num, by omega, by omega, by omega, HLU.out, by rw [← HQ.out, HN.out, ← HFD.out, ← HFU.out]⟩
                            case measure => simp [intOf]; omega
                          · have ht : (!ltInt (G5 j) (G5 (j - 1))) = false := by assumption
                            have hl6 := HL5.out.more nq
                            clear hcw hfw HL5
                            generalize wr.drewN nq = w6 at hl6 ⊢
                            have hc6 := hl6.cells HH.out HG5.out
                            have hf6 := hl6.melts HH.out
                            have hl7 := hl6.swap 1 j (j - 1) (by omega) (by omega)
                            rw [← HG5.out, ← HG5.out] at hl7
                            have HL7 := Lib.hid hl7
                            clear hl6 hl7
                            go_region
                            all_goals go_wp2
                            go_roundw
                            case rel => exact ⟨j + 1, _, swp dj j (j - 1), by go_num, by omega, by omega, HL7.out, Lib.hid ((shiftUp_go ltInt b j dj hjl (by rw [← HG5.out, ← HG5.out]; simpa using ht)).symm.trans hsu.out)⟩
                            case measure => simp [intOf]; omega
                        · have HFU := Lib.hid (show dj = fixUp ltInt b i' dD by rw [fixUp, if_pos hu, ← hsu.out, shiftUp_stop ltInt b j dj (.inl hjl)])
                          have HLU := HL5
                          clear hcw hfw HL5 hsu
                          go_wp2
                          go_roundw
                          case rel => exact ⟨i', s + 1, _, _, by go_num, by go_num, by omega, by omega, by omega, HLU.out, by rw [← HQ.out, HN.out, ← HFD.out, ← HFU.out]⟩
                          case measure => simp [intOf]; omega
                · obtain ⟨dD, hdD⟩ : ∃ dD, dD = swp dk i' (i' - 1) := ⟨_, rfl⟩
                  have HFD := Lib.hid (show dD = fixDown ltInt a i' (swp dk i' (i' - 1)) by rw [hdD, fixDown, if_neg hdn])
                  have hld := HL3.out
                  rw [← hdD] at hld
                  have HLD := Lib.hid hld
                  clear hld
                  clear HL3 hdD
                  have HDN := Lib.hid hdn
                  clear hdn
                  go_region
                  have hdn := HDN.out
                  have hdz : ¬ ((2 : Int) ≤ (i' : Int) - (a : Int)) := by omega
                  all_goals go_wp2
                  go_loopw [10] (fun vj w5 => ∃ (j n5 : Nat) (dj : Array Int), vj = .int .i64 j ∧ i' < j ∧ j ≤ b ∧ Lies w blk off d n5 dj w5 ∧ Hid (shiftUp ltInt b j dj = shiftUp ltInt b (i' + 1) dD)) (fun vj _ => b - (intOf vj).toNat)
                  case atStart => exact ⟨i' + 1, _, dD, by go_num, by omega, by omega, HLD.out, Lib.hid rfl⟩
                  case round =>
                    obtain ⟨j, n5, dj, rfl, hij, hjb, hl5, hsu⟩ := hrel
                    obtain ⟨G5, hG5⟩ : ∃ G : Nat → Int, ∀ t, G t = dj[t]! := ⟨fun t => dj[t]!, fun _ => rfl⟩
                    have HG5 := Lib.hid hG5
                    have hcw := hl5.cells HH.out hG5
                    have hfw := hl5.melts HH.out
                    have HL5 := Lib.hid hl5
                    clear hl5 hG5
                    by_cases hjl : j < b
                    · go_wp2
                      go_big_quiet (first | (go_at_call 78; refine Calls.quiet_of_same (less_u _ _ _)))
                      go_wp2
                      · have ht : (!ltInt (G5 j) (G5 (j - 1))) = true := by assumption
                        have HFU := Lib.hid (show dj = fixUp ltInt b i' dD by rw [fixUp, if_pos hu, ← hsu.out, shiftUp_stop ltInt b j dj (.inr (by rw [← HG5.out, ← HG5.out]; simpa using ht))])
                        have HLU := Lib.hid (HL5.out.more nq)
                        clear hcw hfw HL5 hsu ht
                        go_roundw
                        case rel => exact ⟨i', s + 1, _, _, by go_num, by go_num, by omega, by omega, by omega, HLU.out, by rw [← HQ.out, HN.out, ← HFD.out, ← HFU.out]⟩
                        case measure => simp [intOf]; omega
                      · have ht : (!ltInt (G5 j) (G5 (j - 1))) = false := by assumption
                        have hl6 := HL5.out.more nq
                        clear hcw hfw HL5
                        generalize wr.drewN nq = w6 at hl6 ⊢
                        have hc6 := hl6.cells HH.out HG5.out
                        have hf6 := hl6.melts HH.out
                        have hl7 := hl6.swap 1 j (j - 1) (by omega) (by omega)
                        rw [← HG5.out, ← HG5.out] at hl7
                        have HL7 := Lib.hid hl7
                        clear hl6 hl7
                        go_region
                        all_goals go_wp2
                        go_roundw
                        case rel => exact ⟨j + 1, _, swp dj j (j - 1), by go_num, by omega, by omega, HL7.out, Lib.hid ((shiftUp_go ltInt b j dj hjl (by rw [← HG5.out, ← HG5.out]; simpa using ht)).symm.trans hsu.out)⟩
                        case measure => simp [intOf]; omega
                    · have HFU := Lib.hid (show dj = fixUp ltInt b i' dD by rw [fixUp, if_pos hu, ← hsu.out, shiftUp_stop ltInt b j dj (.inl hjl)])
                      have HLU := HL5
                      clear hcw hfw HL5 hsu
                      go_wp2
                      go_roundw
                      case rel => exact ⟨i', s + 1, _, _, by go_num, by go_num, by omega, by omega, by omega, HLU.out, by rw [← HQ.out, HN.out, ← HFD.out, ← HFU.out]⟩
                      case measure => simp [intOf]; omega
              · have huz : ¬ ((2 : Int) ≤ (b : Int) - (i' : Int)) := by omega
                by_cases hdn : i' - a ≥ 2
                · have hdz : (2 : Int) ≤ (i' : Int) - (a : Int) := by omega
                  go_region
                  all_goals go_wp2
                  go_loopw [9] (fun vj w4 => ∃ (j n4 : Nat) (dj : Array Int), vj = .int .i64 j ∧ j < i' ∧ Lies w blk off d n4 dj w4 ∧ Hid (shiftDown ltInt j dj = shiftDown ltInt (i' - 1) (swp dk i' (i' - 1)))) (fun vj _ => (intOf vj).toNat)
                  case atStart => exact ⟨i' - 1, _, swp dk i' (i' - 1), by go_num, by omega, HL3.out, Lib.hid rfl⟩
                  case round =>
                    clear HL3 hc2 hf2
                    obtain ⟨j, n4, dj, rfl, hji, hl4, hsd⟩ := hrel
                    obtain ⟨G4, hG4⟩ : ∃ G : Nat → Int, ∀ t, G t = dj[t]! := ⟨fun t => dj[t]!, fun _ => rfl⟩
                    have HG4 := Lib.hid hG4
                    have hcw := hl4.cells HH.out hG4
                    have hfw := hl4.melts HH.out
                    have HL4 := Lib.hid hl4
                    clear hl4 hG4
                    by_cases hj1 : 1 ≤ j
                    · go_wp2
                      go_big_quiet (first | (go_at_call 78; refine Calls.quiet_of_same (less_u _ _ _)))
                      go_wp2
                      · have ht : (!ltInt (G4 j) (G4 (j - 1))) = true := by assumption
                        obtain ⟨dD, hdD⟩ : ∃ dD, dD = dj := ⟨_, rfl⟩
                        rw [← hdD] at HL4
                        have HFD := Lib.hid (show dD = fixDown ltInt a i' (swp dk i' (i' - 1)) by rw [hdD, fixDown, if_pos hdn, ← hsd.out, shiftDown_stop ltInt j dj (.inr (by rw [← HG4.out, ← HG4.out]; simpa using ht))])
                        have HLD := Lib.hid (HL4.out.more nq)
                        clear hcw hfw HL4 hsd ht hdD
                        generalize wr.drewN nq = wD at HLD ⊢
                        have HFU := Lib.hid (show dD = fixUp ltInt b i' dD by rw [fixUp, if_neg hu])
                        have HLU := HLD
                        go_roundw
                        case rel => exact ⟨i', s + 1, _, _, by go_num, by go_num, by omega, by omega, by omega, HLU.out, by rw [← HQ.out, HN.out, ← HFD.out, ← HFU.out]⟩
                        case measure => simp [intOf]; omega
                      · have ht : (!ltInt (G4 j) (G4 (j - 1))) = false := by assumption
                        have hl6 := HL4.out.more nq
                        clear hcw hfw HL4
                        generalize wr.drewN nq = w6 at hl6 ⊢
                        have hc6 := hl6.cells HH.out HG4.out
                        have hf6 := hl6.melts HH.out
                        have hl7 := hl6.swap 1 j (j - 1) (by omega) (by omega)
                        rw [← HG4.out, ← HG4.out] at hl7
                        have HL7 := Lib.hid hl7
                        clear hl6 hl7
                        go_region
                        all_goals go_wp2
                        go_roundw
                        case rel => exact ⟨j - 1, _, swp dj j (j - 1), by go_num, by omega, HL7.out, Lib.hid ((shiftDown_go ltInt j dj hj1 (by rw [← HG4.out, ← HG4.out]; simpa using ht)).symm.trans hsd.out)⟩
                        case measure => simp [intOf]; omega
                    · obtain ⟨dD, hdD⟩ : ∃ dD, dD = dj := ⟨_, rfl⟩
                      rw [← hdD] at HL4
                      have HFD := Lib.hid (show dD = fixDown ltInt a i' (swp dk i' (i' - 1)) by rw [hdD, fixDown, if_pos hdn, ← hsd.out, shiftDown_stop ltInt j dj (.inl (by omega))])
                      have HLD := HL4
                      clear hcw hfw HL4 hsd hdD
                      go_wp2
                      have HFU := Lib.hid (show dD = fixUp ltInt b i' dD by rw [fixUp, if_neg hu])
                      have HLU := HLD
                      go_roundw
                      case rel => exact ⟨i', s + 1, _, _, by go_num, by go_num, by omega, by omega, by omega, HLU.out, by rw [← HQ.out, HN.out, ← HFD.out, ← HFU.out]⟩
                      case measure => simp [intOf]; omega
                · obtain ⟨dD, hdD⟩ : ∃ dD, dD = swp dk i' (i' - 1) := ⟨_, rfl⟩
                  have HFD := Lib.hid (show dD = fixDown ltInt a i' (swp dk i' (i' - 1)) by rw [hdD, fixDown, if_neg hdn])
                  have hld := HL3.out
                  rw [← hdD] at hld
                  have HLD := Lib.hid hld
                  clear hld
                  clear HL3 hdD
                  have HDN := Lib.hid hdn
                  clear hdn
                  go_region
                  have hdn := HDN.out
                  have hdz : ¬ ((2 : Int) ≤ (i' : Int) - (a : Int)) := by omega
                  all_goals go_wp2
                  have HFU := Lib.hid (show dD = fixUp ltInt b i' dD by rw [fixUp, if_neg hu])
                  have HLU := HLD
                  go_roundw
                  case rel => exact ⟨i', s + 1, _, _, by go_num, by go_num, by omega, by omega, by omega, HLU.out, by rw [← HQ.out, HN.out, ← HFD.out, ← HFU.out]⟩
                  case measure => simp [intOf]; omega
        · have heq : ((i' : Int) == (b : Int)) = true := by simp; omega
          go_wp2_with fail
          go_big_quiet (first | (go_at_call 78; refine Calls.quiet_of_same (less_u _ _ _)))
          go_wp2
          go_ret
          have e := pi_true ltInt a b s i dk hs (hsc.out.symm.trans ((scanSorted_stop ltInt dk b i' (.inl hle)).trans (by omega)))
          exact ⟨by rw [← HQ.out, e]; rfl, _, by rw [← HQ.out, e]; exact HL1.out.more nq⟩
    · obtain rfl : s = 5 := by omega
      go_wp2
      go_ret
      exact ⟨by rw [← HQ.out, pi_end]; rfl, n, by rw [← HQ.out, pi_end]; exact HL.out⟩

end Go.Proofs.YtpbnjibomdilhaaGreatDoor.Gph
