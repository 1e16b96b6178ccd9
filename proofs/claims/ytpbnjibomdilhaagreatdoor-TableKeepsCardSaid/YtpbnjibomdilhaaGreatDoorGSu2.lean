/- slices.Sort at []uint64, third part: the two partitions, by their contracts. -/
import Derived.Test.YtpbnjibomdilhaaGreatDoorMai
import Derived.Sort.WalkC4
namespace Go.Proofs.YtpbnjibomdilhaaGreatDoor.Gph
open Go.RowKit Go.Sort

section
variable {w wr : World} {blk off n : Nat} {d dk : Array Int} {G : Nat → Int}
theorem Lies.cells (h : Lies w blk off d n dk wr) (hH : Holds encU w blk off d) (hG : ∀ t, G t = dk[t]!) : ∀ t, t < d.size → wr.cell? ⟨blk, off + t, none⟩ = some (.int .u64 (G t)) :=
  fun t ht => by rw [hG]; exact (h.holds hH t (by rw [h.size]; exact ht)).1
theorem Lies.melts (h : Lies w blk off d n dk wr) (hH : Holds encU w blk off d) : ∀ t, t < d.size → wr.frozen? ⟨blk, off + t, none⟩ = false :=
  fun t ht => (h.holds hH t (by rw [h.size]; exact ht)).2
end

set_option maxHeartbeats 6400000 in
set_option maxRecDepth 100000 in
theorem partEqual_u (blk off cap len a b pivot : Nat) (d : Array Int) (w : World) (hlen : d.size = len) (hH : Holds encU w blk off d) (hap : a ≤ pivot) (hpb : pivot < b) (hb : b ≤ len) (hsz : len < 4611686018427387904) :
    Calls Tryz.prog 79 #[.slice (some ⟨blk, off, none⟩) len cap, .int .i64 a, .int .i64 b, .int .i64 pivot] w fun e w' =>
      e = .returned (.int .i64 (Sort.partitionEqual ltInt d a b pivot).1) ∧ ∃ n, Lies w blk off d n (Sort.partitionEqual ltInt d a b pivot).2 w' := by
  subst hlen
  have HH := Lib.hid hH
  have HL0 := Lib.hid (Lies.start hH)
  obtain ⟨G, hG, hcw, hfw⟩ := (Lies.start hH).fam hH
  have HG := Lib.hid hG
  clear hH hG
  have ca : w.cell? ⟨blk, off + a, none⟩ = some (.int .u64 (G a)) := hcw a (by omega)
  have cp : w.cell? ⟨blk, off + pivot, none⟩ = some (.int .u64 (G pivot)) := hcw pivot (by omega)
  have fa := hfw a (by omega)
  have fp := hfw pivot (by omega)
  obtain ⟨v', hy'⟩ := cell?_setCell_some (w := w) (p := ⟨blk, off + a, none⟩) (x := .int .u64 (G pivot)) (q := ⟨blk, off + pivot, none⟩) cp
  have hl1 : Lies w blk off d 1 (swp d a pivot) (((w.setCell ⟨blk, off + a, none⟩ (.int .u64 (G pivot))).setCell ⟨blk, off + pivot, none⟩ (.int .u64 (G a))).drew) := by
    have := HL0.out.swap 1 a pivot (by omega) (by omega)
    rw [← HG.out, ← HG.out] at this
    rw [show (1 : Nat) = 0 + 1 from rfl]; exact this
  have HL1 := Lib.hid hl1
  clear hcw hfw hl1
  go_enter Tryz.func79, Tryz.ntmps79
  go_wp2
  go_region
  go_wp2
  go_loopw [9, 10] (fun vi vj wr => ∃ (i j n : Nat) (dk : Array Int), vi = .int .i64 i ∧ vj = .int .i64 j ∧ a < i ∧ i ≤ j + 1 ∧ j < b ∧ Lies w blk off d n dk wr ∧ partEqLoop ltInt a i j dk = partEqLoop ltInt a (a + 1) (b - 1) (swp d a pivot)) (fun vi vj _ => (intOf vj).toNat + 1 - (intOf vi).toNat)
  case atStart => exact ⟨a + 1, b - 1, 1, swp d a pivot, by go_num, by go_num, by omega, by omega, by omega, HL1.out, rfl⟩
  case round =>
    obtain ⟨i, j, n, dk, rfl, rfl, hai, hij, hjb, hl, hq⟩ := hrel
    clear ca cp fa fp hy' v' HL1 HG
    obtain ⟨G, hG⟩ : ∃ G : Nat → Int, ∀ t, G t = dk[t]! := ⟨fun t => dk[t]!, fun _ => rfl⟩
    have HG := Lib.hid hG
    have HL := Lib.hid hl
    have HQ := Lib.hid hq
    clear hG hl hq
    go_wp2
    go_loopw [9] (fun vi w1 => ∃ (i' n1 : Nat), vi = .int .i64 i' ∧ i ≤ i' ∧ i' ≤ j + 1 ∧ Lies w blk off d n1 dk w1 ∧ Hid (scanUp (fun x => !ltInt dk[a]! x) dk j i' = scanUp (fun x => !ltInt dk[a]! x) dk j i)) (fun vi _ => j + 1 - (intOf vi).toNat)
    case atStart => exact ⟨i, _, rfl, Nat.le_refl _, hij, HL.out, Lib.hid rfl⟩
    case round =>
      obtain ⟨i', n1, rfl, hii, hij', hl1, hsc⟩ := hrel
      have hcw := hl1.cells HH.out HG.out
      have HL1 := Lib.hid hl1
      clear hl1
      by_cases hle : i' ≤ j
      · go_wp2_with fail
        go_big_quiet (first | (go_at_call 78; refine Calls.quiet_of_same (less_u _ _ _)))
        go_wp2
        · have ht : (!ltInt (G a) (G i')) = true := by assumption
          go_roundw
          case rel => exact ⟨i' + 1, n1 + nq, by go_num, by omega, by omega, HL1.out.more nq, Lib.hid ((scanUp_go (fun x => !ltInt dk[a]! x) dk j i' hle (by rw [← HG.out, ← HG.out]; exact ht)).symm.trans hsc.out)⟩
          case measure => simp [intOf]; omega
        · have ht : (!ltInt (G a) (G i')) = false := by assumption
          have hi2 := Lib.hid (show i' = scanUp (fun x => !ltInt dk[a]! x) dk j i from (scanUp_end (fun x => !ltInt dk[a]! x) dk j i' (.inr (by rw [← HG.out, ← HG.out]; exact ht))).symm.trans hsc.out)
          clear ht
          have hl0 := HL1.out.more nq
          clear hcw HL1 hsc
          go_loopw [10] (fun vj w2 => ∃ (j' n2 : Nat), vj = .int .i64 j' ∧ j' ≤ j ∧ i' ≤ j' + 1 ∧ Lies w blk off d n2 dk w2 ∧ Hid (scanDown (fun x => ltInt dk[a]! x) dk i' j' = scanDown (fun x => ltInt dk[a]! x) dk i' j)) (fun vj _ => (intOf vj).toNat)
          case atStart => exact ⟨j, _, rfl, Nat.le_refl _, hij', hl0, Lib.hid rfl⟩
          case round =>
            clear hl0
            obtain ⟨j', n2, rfl, hjj, hij2, hl2, hsd⟩ := hrel
            have hcw := hl2.cells HH.out HG.out
            have HL2 := Lib.hid hl2
            clear hl2
            by_cases hle2 : i' ≤ j'
            · go_wp2_with fail
              go_big_quiet (first | (go_at_call 78; refine Calls.quiet_of_same (less_u _ _ _)))
              go_wp2
              · have ht : ltInt (G a) (G j') = true := by assumption
                go_roundw
                case rel => exact ⟨j' - 1, n2 + nq, by go_num, by omega, by omega, HL2.out.more nq, Lib.hid ((scanDown_go (fun x => ltInt dk[a]! x) dk i' j' hle2 (by omega) (by rw [← HG.out, ← HG.out]; exact ht)).symm.trans hsd.out)⟩
                case measure => simp [intOf]; omega
              · have ht : ltInt (G a) (G j') = false := by assumption
                have hj2 := Lib.hid (show j' = scanDown (fun x => ltInt dk[a]! x) dk i' j from (scanDown_end (fun x => ltInt dk[a]! x) dk i' j' (.inr (by rw [← HG.out, ← HG.out]; exact ht))).symm.trans hsd.out)
                have hl3 := HL2.out.more nq
                clear hcw hsd ht HL2
                generalize wr.drewN nq = w3 at hl3 ⊢
                have hc3 := hl3.cells HH.out HG.out
                have hf3 := hl3.melts HH.out
                have HL3 := Lib.hid hl3
                clear hl3
                obtain ⟨v3, hy3⟩ := cell?_setCell_some (w := w3) (p := ⟨blk, off + i', none⟩) (x := .int .u64 (G j')) (q := ⟨blk, off + j', none⟩) (hc3 j' (by omega))
                have hlt3 := scans_lt ltInt a i j dk (by omega) hi2.out hj2.out hle2
                go_wp2
                go_region
                all_goals go_wp2
                all_goals go_roundw
                case rel =>
                  refine ⟨i' + 1, j' - 1, _, swp dk i' j', by go_num, by go_num, by omega, by omega, by omega, (show Lies w blk off d (n2 + nq + 1) (swp dk i' j') _ from ?_), ?_⟩
                  · have := HL3.out.swap 1 i' j' (by omega) (by omega)
                    rw [← HG.out, ← HG.out] at this
                    exact this
                  · rw [← HQ.out]; exact (partEq_go ltInt a i j dk hi2.out hj2.out (by omega)).symm
                case measure => simp [intOf]; omega
            · go_wp2_with fail
              go_big_quiet (first | (go_at_call 78; refine Calls.quiet_of_same (less_u _ _ _)))
              have hj2 := Lib.hid (show j' = scanDown (fun x => ltInt dk[a]! x) dk i' j from (scanDown_end (fun x => ltInt dk[a]! x) dk i' j' (.inl hle2)).symm.trans hsd.out)
              have hl3 := HL2.out.more nq
              clear hcw hsd HL2
              generalize wr.drewN nq = w3 at hl3 ⊢
              have hc3 := hl3.cells HH.out HG.out
              have hf3 := hl3.melts HH.out
              have HL3 := Lib.hid hl3
              clear hl3
              go_wp2
              go_ret
              have e := partEq_break ltInt a i j dk hi2.out hj2.out (by omega)
              refine ⟨?_, n2 + nq, ?_⟩
              · unfold Sort.partitionEqual; rw [← HQ.out, e]; rfl
              · unfold Sort.partitionEqual; rw [← HQ.out, e]; exact HL3.out

      · go_wp2_with fail
        go_big_quiet (first | (go_at_call 78; refine Calls.quiet_of_same (less_u _ _ _)))
        go_wp2
        have hi2 := Lib.hid (show i' = scanUp (fun x => !ltInt dk[a]! x) dk j i from (scanUp_end (fun x => !ltInt dk[a]! x) dk j i' (.inl hle)).symm.trans hsc.out)
        have hl0 := HL1.out.more nq
        clear hcw HL1 hsc
        go_loopw [10] (fun vj w2 => ∃ (j' n2 : Nat), vj = .int .i64 j' ∧ j' ≤ j ∧ i' ≤ j' + 1 ∧ Lies w blk off d n2 dk w2 ∧ Hid (scanDown (fun x => ltInt dk[a]! x) dk i' j' = scanDown (fun x => ltInt dk[a]! x) dk i' j)) (fun vj _ => (intOf vj).toNat)
        case atStart => exact ⟨j, _, rfl, Nat.le_refl _, hij', hl0, Lib.hid rfl⟩
        case round =>
          clear hl0
          obtain ⟨j', n2, rfl, hjj, hij2, hl2, hsd⟩ := hrel
          have hcw := hl2.cells HH.out HG.out
          have HL2 := Lib.hid hl2
          clear hl2
          by_cases hle2 : i' ≤ j'
          · exfalso; omega
          · go_wp2_with fail
            go_big_quiet (first | (go_at_call 78; refine Calls.quiet_of_same (less_u _ _ _)))
            have hj2 := Lib.hid (show j' = scanDown (fun x => ltInt dk[a]! x) dk i' j from (scanDown_end (fun x => ltInt dk[a]! x) dk i' j' (.inl hle2)).symm.trans hsd.out)
            have hl3 := HL2.out.more nq
            clear hcw hsd HL2
            generalize wr.drewN nq = w3 at hl3 ⊢
            have hc3 := hl3.cells HH.out HG.out
            have hf3 := hl3.melts HH.out
            have HL3 := Lib.hid hl3
            clear hl3
            go_wp2
            go_ret
            have e := partEq_break ltInt a i j dk hi2.out hj2.out (by omega)
            refine ⟨?_, n2 + nq, ?_⟩
            · unfold Sort.partitionEqual; rw [← HQ.out, e]; rfl
            · unfold Sort.partitionEqual; rw [← HQ.out, e]; exact HL3.out

set_option maxHeartbeats 12800000 in
set_option maxRecDepth 100000 in
theorem part_u (blk off cap len a b pivot : Nat) (d : Array Int) (w : World) (hlen : d.size = len) (hH : Holds encU w blk off d) (hap : a ≤ pivot) (hpb : pivot < b) (hb : b ≤ len) (hsz : len < 4611686018427387904) :
    Calls Tryz.prog 80 #[.slice (some ⟨blk, off, none⟩) len cap, .int .i64 a, .int .i64 b, .int .i64 pivot] w fun e w' =>
      e = .returned (.tuple #[.int .i64 (Sort.partition ltInt d a b pivot).1, .bool (Sort.partition ltInt d a b pivot).2.1]) ∧ ∃ n, Lies w blk off d n (Sort.partition ltInt d a b pivot).2.2 w' := by
  subst hlen
  have HH := Lib.hid hH
  have HL0 := Lib.hid (Lies.start hH)
  obtain ⟨G, hG, hcw, hfw⟩ := (Lies.start hH).fam hH
  have HG := Lib.hid hG
  clear hH hG
  have ca : w.cell? ⟨blk, off + a, none⟩ = some (.int .u64 (G a)) := hcw a (by omega)
  have cp : w.cell? ⟨blk, off + pivot, none⟩ = some (.int .u64 (G pivot)) := hcw pivot (by omega)
  have fa := hfw a (by omega)
  have fp := hfw pivot (by omega)
  obtain ⟨v', hy'⟩ := cell?_setCell_some (w := w) (p := ⟨blk, off + a, none⟩) (x := .int .u64 (G pivot)) (q := ⟨blk, off + pivot, none⟩) cp
  have hl1 : Lies w blk off d 1 (swp d a pivot) (((w.setCell ⟨blk, off + a, none⟩ (.int .u64 (G pivot))).setCell ⟨blk, off + pivot, none⟩ (.int .u64 (G a))).drew) := by
    have := HL0.out.swap 1 a pivot (by omega) (by omega)
    rw [← HG.out, ← HG.out] at this
    rw [show (1 : Nat) = 0 + 1 from rfl]; exact this
  have HL1 := Lib.hid hl1
  clear hcw hfw hl1
  go_enter Tryz.func80, Tryz.ntmps80
  go_wp2
  go_region
  go_wp2
  generalize ((w.setCell ⟨blk, off + a, none⟩ (.int .u64 (G pivot))).setCell ⟨blk, off + pivot, none⟩ (.int .u64 (G a))).drew = wr at HL1 ⊢
  have HL := HL1
  clear ca cp fa fp hy' v' HL1 HG
  obtain ⟨dk, hdk⟩ : ∃ dk, dk = swp d a pivot := ⟨_, rfl⟩
  rw [← hdk] at HL
  replace hdk := Lib.hid hdk
  obtain ⟨i, hi⟩ : ∃ i, i = a + 1 := ⟨_, rfl⟩
  obtain ⟨j, hj⟩ : ∃ j, j = b - 1 := ⟨_, rfl⟩
  rw [show ((a : Int) + 1) = (i : Int) by omega, show ((b : Int) - 1) = (j : Int) by omega]
  have hai : a < i := by omega
  have hij : i ≤ j + 1 := by omega
  have hjb : j < b := by omega
  have haj : a ≤ j := by omega
  replace hi := Lib.hid hi
  replace hj := Lib.hid hj
  obtain ⟨G, hG⟩ : ∃ G : Nat → Int, ∀ t, G t = dk[t]! := ⟨fun t => dk[t]!, fun _ => rfl⟩
  have HG := Lib.hid hG
  clear hG
  go_loopw [10] (fun vi w1 => ∃ (i' n1 : Nat), vi = .int .i64 i' ∧ i ≤ i' ∧ i' ≤ j + 1 ∧ Lies w blk off d n1 dk w1 ∧ Hid (scanUp (fun x => ltInt x dk[a]!) dk j i' = scanUp (fun x => ltInt x dk[a]!) dk j i)) (fun vi _ => j + 1 - (intOf vi).toNat)
  case atStart => exact ⟨i, _, rfl, Nat.le_refl _, hij, HL.out, Lib.hid rfl⟩
  case round =>
    obtain ⟨i', n1, rfl, hii, hij', hl1, hsc⟩ := hrel
    have hcw := hl1.cells HH.out HG.out
    have HL1 := Lib.hid hl1
    clear hl1
    by_cases hle : i' ≤ j
    · go_wp2_with fail
      go_big_quiet (first | (go_at_call 78; refine Calls.quiet_of_same (less_u _ _ _)))
      go_wp2
      · have ht : ltInt (G i') (G a) = true := by assumption
        go_roundw
        case rel => exact ⟨i' + 1, n1 + nq, by go_num, by omega, by omega, HL1.out.more nq, Lib.hid ((scanUp_go (fun x => ltInt x dk[a]!) dk j i' hle (by rw [← HG.out, ← HG.out]; exact ht)).symm.trans hsc.out)⟩
        case measure => simp [intOf]; omega
      · have ht : ltInt (G i') (G a) = false := by assumption
        have hi2 := Lib.hid (show i' = scanUp (fun x => ltInt x dk[a]!) dk j i from (scanUp_end (fun x => ltInt x dk[a]!) dk j i' (.inr (by rw [← HG.out, ← HG.out]; exact ht))).symm.trans hsc.out)
        clear ht
        have hl0 := HL1.out.more nq
        clear hcw HL1 hsc
        go_loopw [11] (fun vj w2 => ∃ (j' n2 : Nat), vj = .int .i64 j' ∧ j' ≤ j ∧ i' ≤ j' + 1 ∧ Lies w blk off d n2 dk w2 ∧ Hid (scanDown (fun x => !ltInt x dk[a]!) dk i' j' = scanDown (fun x => !ltInt x dk[a]!) dk i' j)) (fun vj _ => (intOf vj).toNat)
        case atStart => exact ⟨j, _, rfl, Nat.le_refl _, hij', hl0, Lib.hid rfl⟩
        case round =>
          clear hl0
          obtain ⟨j', n2, rfl, hjj, hij2, hl2, hsd⟩ := hrel
          have hcw := hl2.cells HH.out HG.out
          have HL2 := Lib.hid hl2
          clear hl2
          by_cases hle2 : i' ≤ j'
          · go_wp2_with fail
            go_big_quiet (first | (go_at_call 78; refine Calls.quiet_of_same (less_u _ _ _)))
            go_wp2
            · have ht : (!ltInt (G j') (G a)) = true := by assumption
              go_roundw
              case rel => exact ⟨j' - 1, n2 + nq, by go_num, by omega, by omega, HL2.out.more nq, Lib.hid ((scanDown_go (fun x => !ltInt x dk[a]!) dk i' j' hle2 (by omega) (by rw [← HG.out, ← HG.out]; exact ht)).symm.trans hsd.out)⟩
              case measure => simp [intOf]; omega
            · have ht : (!ltInt (G j') (G a)) = false := by assumption
              have hj2 := Lib.hid (show j' = scanDown (fun x => !ltInt x dk[a]!) dk i' j from (scanDown_end (fun x => !ltInt x dk[a]!) dk i' j' (.inr (by rw [← HG.out, ← HG.out]; exact ht))).symm.trans hsd.out)
              have hl3 := HL2.out.more nq
              clear hcw hsd ht HL2
              generalize wr.drewN nq = w3 at hl3 ⊢
              have hc3 := hl3.cells HH.out HG.out
              have hf3 := hl3.melts HH.out
              have HL3 := Lib.hid hl3
              clear hl3
              obtain ⟨v3, hy3⟩ := cell?_setCell_some (w := w3) (p := ⟨blk, off + i', none⟩) (x := .int .u64 (G j')) (q := ⟨blk, off + j', none⟩) (hc3 j' (by omega))
              have hlt3 := part_scans_lt ltInt a i j dk (by omega) hi2.out hj2.out hle2
              have HF := Lib.hid (part_first_go ltInt d a b pivot hi.out hj.out hdk.out hi2.out hj2.out (by omega))
              have hl5 := HL3.out.swap 1 i' j' (by omega) (by omega)
              rw [← HG.out, ← HG.out] at hl5
              have HL5 := Lib.hid hl5
              clear hl5
              obtain ⟨r2, hr2⟩ : ∃ r2, r2 = partLoop ltInt a (i' + 1) (j' - 1) (swp dk i' j') := ⟨_, rfl⟩
              rw [← hr2] at HF
              have HR2 := Lib.hid hr2
              clear hr2
              go_wp2
              go_region
              all_goals go_wp2
              go_loopw [10, 11] (fun vi vj wr => ∃ (i j n : Nat) (dk : Array Int), vi = .int .i64 i ∧ vj = .int .i64 j ∧ a < i ∧ i ≤ j + 1 ∧ a ≤ j ∧ j < b ∧ Lies w blk off d n dk wr ∧ partLoop ltInt a i j dk = r2) (fun vi vj _ => (intOf vj).toNat + 1 - (intOf vi).toNat)
              case atStart => exact ⟨i' + 1, j' - 1, _, swp dk i' j', by go_num, by go_num, by omega, by omega, by omega, by omega, HL5.out, HR2.out.symm⟩
              case round =>
                clear HL3 HL5 hc3 hf3 HR2 hi2 hj2 hi hj hdk HG hy3 v3 hle2 hlt3 hij hij' hij2 hii hjj hai hjb haj hle
                obtain ⟨i, j, n, dk, rfl, rfl, hai, hij, haj, hjb, hl, hq⟩ := hrel
                obtain ⟨G, hG⟩ : ∃ G : Nat → Int, ∀ t, G t = dk[t]! := ⟨fun t => dk[t]!, fun _ => rfl⟩
                have HG := Lib.hid hG
                have HL := Lib.hid hl
                have HQ := Lib.hid hq
                clear hG hl hq
                go_wp2
                go_loopw [10] (fun vi w1 => ∃ (i' n1 : Nat), vi = .int .i64 i' ∧ i ≤ i' ∧ i' ≤ j + 1 ∧ Lies w blk off d n1 dk w1 ∧ Hid (scanUp (fun x => ltInt x dk[a]!) dk j i' = scanUp (fun x => ltInt x dk[a]!) dk j i)) (fun vi _ => j + 1 - (intOf vi).toNat)
                case atStart => exact ⟨i, _, rfl, Nat.le_refl _, hij, HL.out, Lib.hid rfl⟩
                case round =>
                  obtain ⟨i', n1, rfl, hii, hij', hl1, hsc⟩ := hrel
                  have hcw := hl1.cells HH.out HG.out
                  have HL1 := Lib.hid hl1
                  clear hl1
                  by_cases hle : i' ≤ j
                  · go_wp2_with fail
                    go_big_quiet (first | (go_at_call 78; refine Calls.quiet_of_same (less_u _ _ _)))
                    go_wp2
                    · have ht : ltInt (G i') (G a) = true := by assumption
                      go_roundw
                      case rel => exact ⟨i' + 1, n1 + nq, by go_num, by omega, by omega, HL1.out.more nq, Lib.hid ((scanUp_go (fun x => ltInt x dk[a]!) dk j i' hle (by rw [← HG.out, ← HG.out]; exact ht)).symm.trans hsc.out)⟩
                      case measure => simp [intOf]; omega
                    · have ht : ltInt (G i') (G a) = false := by assumption
                      have hi2 := Lib.hid (show i' = scanUp (fun x => ltInt x dk[a]!) dk j i from (scanUp_end (fun x => ltInt x dk[a]!) dk j i' (.inr (by rw [← HG.out, ← HG.out]; exact ht))).symm.trans hsc.out)
                      clear ht
                      have hl0 := HL1.out.more nq
                      clear hcw HL1 hsc
                      go_loopw [11] (fun vj w2 => ∃ (j' n2 : Nat), vj = .int .i64 j' ∧ j' ≤ j ∧ i' ≤ j' + 1 ∧ Lies w blk off d n2 dk w2 ∧ Hid (scanDown (fun x => !ltInt x dk[a]!) dk i' j' = scanDown (fun x => !ltInt x dk[a]!) dk i' j)) (fun vj _ => (intOf vj).toNat)
                      case atStart => exact ⟨j, _, rfl, Nat.le_refl _, hij', hl0, Lib.hid rfl⟩
                      case round =>
                        clear hl0
                        obtain ⟨j', n2, rfl, hjj, hij2, hl2, hsd⟩ := hrel
                        have hcw := hl2.cells HH.out HG.out
                        have HL2 := Lib.hid hl2
                        clear hl2
                        by_cases hle2 : i' ≤ j'
                        · go_wp2_with fail
                          go_big_quiet (first | (go_at_call 78; refine Calls.quiet_of_same (less_u _ _ _)))
                          go_wp2
                          · have ht : (!ltInt (G j') (G a)) = true := by assumption
                            go_roundw
                            case rel => exact ⟨j' - 1, n2 + nq, by go_num, by omega, by omega, HL2.out.more nq, Lib.hid ((scanDown_go (fun x => !ltInt x dk[a]!) dk i' j' hle2 (by omega) (by rw [← HG.out, ← HG.out]; exact ht)).symm.trans hsd.out)⟩
                            case measure => simp [intOf]; omega
                          · have ht : (!ltInt (G j') (G a)) = false := by assumption
                            have hj2 := Lib.hid (show j' = scanDown (fun x => !ltInt x dk[a]!) dk i' j from (scanDown_end (fun x => !ltInt x dk[a]!) dk i' j' (.inr (by rw [← HG.out, ← HG.out]; exact ht))).symm.trans hsd.out)
                            have hl3 := HL2.out.more nq
                            clear hcw hsd ht HL2
                            generalize wr.drewN nq = w3 at hl3 ⊢
                            have hc3 := hl3.cells HH.out HG.out
                            have hf3 := hl3.melts HH.out
                            have HL3 := Lib.hid hl3
                            clear hl3
                            obtain ⟨v3, hy3⟩ := cell?_setCell_some (w := w3) (p := ⟨blk, off + i', none⟩) (x := .int .u64 (G j')) (q := ⟨blk, off + j', none⟩) (hc3 j' (by omega))
                            have hlt3 := part_scans_lt ltInt a i j dk (by omega) hi2.out hj2.out hle2
                            go_wp2
                            go_region
                            all_goals go_wp2
                            all_goals go_roundw
                            case rel =>
                              refine ⟨i' + 1, j' - 1, _, swp dk i' j', by go_num, by go_num, by omega, by omega, by omega, by omega, (show Lies w blk off d (n2 + nq + 1) (swp dk i' j') _ from ?_), ?_⟩
                              · have := HL3.out.swap 1 i' j' (by omega) (by omega)
                                rw [← HG.out, ← HG.out] at this
                                exact this
                              · rw [← HQ.out]; exact (part_go ltInt a i j dk hi2.out hj2.out (by omega)).symm
                            case measure => simp [intOf]; omega
                        · go_wp2_with fail
                          go_big_quiet (first | (go_at_call 78; refine Calls.quiet_of_same (less_u _ _ _)))
                          have hj2 := Lib.hid (show j' = scanDown (fun x => !ltInt x dk[a]!) dk i' j from (scanDown_end (fun x => !ltInt x dk[a]!) dk i' j' (.inl hle2)).symm.trans hsd.out)
                          have hl3 := HL2.out.more nq
                          clear hcw hsd HL2
                          generalize wr.drewN nq = w3 at hl3 ⊢
                          have hc3 := hl3.cells HH.out HG.out
                          have hf3 := hl3.melts HH.out
                          have HL3 := Lib.hid hl3
                          clear hl3
                          have cja := hc3 j' (by omega)
                          have caa := hc3 a (by omega)
                          have fja := hf3 j' (by omega)
                          have faa := hf3 a (by omega)
                          obtain ⟨v4, hy4⟩ := cell?_setCell_some (w := w3) (p := ⟨blk, off + j', none⟩) (x := .int .u64 (G a)) (q := ⟨blk, off + a, none⟩) caa
                          have hl4 := HL3.out.swap 1 j' a (by omega) (by omega)
                          rw [← HG.out, ← HG.out] at hl4
                          have HL4 := Lib.hid hl4
                          clear hl4 hc3 hf3
                          go_wp2
                          go_region
                          all_goals go_wp2
                          (try simp only [Exit.inBlock, Exit.then]); refine bodyPost_ret (results_tmp2 rfl _ _ _) rfl ?_
                          have e := part_break ltInt a i j dk hi2.out hj2.out (by omega)
                          rw [HF.out, ← HQ.out, e]
                          exact ⟨rfl, _, HL4.out⟩

                  · go_wp2_with fail
                    go_big_quiet (first | (go_at_call 78; refine Calls.quiet_of_same (less_u _ _ _)))
                    go_wp2
                    have hi2 := Lib.hid (show i' = scanUp (fun x => ltInt x dk[a]!) dk j i from (scanUp_end (fun x => ltInt x dk[a]!) dk j i' (.inl hle)).symm.trans hsc.out)
                    have hl0 := HL1.out.more nq
                    clear hcw HL1 hsc
                    go_loopw [11] (fun vj w2 => ∃ (j' n2 : Nat), vj = .int .i64 j' ∧ j' ≤ j ∧ i' ≤ j' + 1 ∧ Lies w blk off d n2 dk w2 ∧ Hid (scanDown (fun x => !ltInt x dk[a]!) dk i' j' = scanDown (fun x => !ltInt x dk[a]!) dk i' j)) (fun vj _ => (intOf vj).toNat)
                    case atStart => exact ⟨j, _, rfl, Nat.le_refl _, hij', hl0, Lib.hid rfl⟩
                    case round =>
                      clear hl0
                      obtain ⟨j', n2, rfl, hjj, hij2, hl2, hsd⟩ := hrel
                      have hcw := hl2.cells HH.out HG.out
                      have HL2 := Lib.hid hl2
                      clear hl2
                      by_cases hle2 : i' ≤ j'
                      · exfalso; omega
                      · go_wp2_with fail
                        go_big_quiet (first | (go_at_call 78; refine Calls.quiet_of_same (less_u _ _ _)))
                        have hj2 := Lib.hid (show j' = scanDown (fun x => !ltInt x dk[a]!) dk i' j from (scanDown_end (fun x => !ltInt x dk[a]!) dk i' j' (.inl hle2)).symm.trans hsd.out)
                        have hl3 := HL2.out.more nq
                        clear hcw hsd HL2
                        generalize wr.drewN nq = w3 at hl3 ⊢
                        have hc3 := hl3.cells HH.out HG.out
                        have hf3 := hl3.melts HH.out
                        have HL3 := Lib.hid hl3
                        clear hl3
                        have cja := hc3 j' (by omega)
                        have caa := hc3 a (by omega)
                        have fja := hf3 j' (by omega)
                        have faa := hf3 a (by omega)
                        obtain ⟨v4, hy4⟩ := cell?_setCell_some (w := w3) (p := ⟨blk, off + j', none⟩) (x := .int .u64 (G a)) (q := ⟨blk, off + a, none⟩) caa
                        have hl4 := HL3.out.swap 1 j' a (by omega) (by omega)
                        rw [← HG.out, ← HG.out] at hl4
                        have HL4 := Lib.hid hl4
                        clear hl4 hc3 hf3
                        go_wp2
                        go_region
                        all_goals go_wp2
                        (try simp only [Exit.inBlock, Exit.then]); refine bodyPost_ret (results_tmp2 rfl _ _ _) rfl ?_
                        have e := part_break ltInt a i j dk hi2.out hj2.out (by omega)
                        rw [HF.out, ← HQ.out, e]
                        exact ⟨rfl, _, HL4.out⟩

          · go_wp2_with fail
            go_big_quiet (first | (go_at_call 78; refine Calls.quiet_of_same (less_u _ _ _)))
            have hj2 := Lib.hid (show j' = scanDown (fun x => !ltInt x dk[a]!) dk i' j from (scanDown_end (fun x => !ltInt x dk[a]!) dk i' j' (.inl hle2)).symm.trans hsd.out)
            have hl3 := HL2.out.more nq
            clear hcw hsd HL2
            generalize wr.drewN nq = w3 at hl3 ⊢
            have hc3 := hl3.cells HH.out HG.out
            have hf3 := hl3.melts HH.out
            have HL3 := Lib.hid hl3
            clear hl3
            have cja := hc3 j' (by omega)
            have caa := hc3 a (by omega)
            have fja := hf3 j' (by omega)
            have faa := hf3 a (by omega)
            obtain ⟨v4, hy4⟩ := cell?_setCell_some (w := w3) (p := ⟨blk, off + j', none⟩) (x := .int .u64 (G a)) (q := ⟨blk, off + a, none⟩) caa
            have hl4 := HL3.out.swap 1 j' a (by omega) (by omega)
            rw [← HG.out, ← HG.out] at hl4
            have HL4 := Lib.hid hl4
            clear hl4 hc3 hf3
            go_wp2
            go_region
            all_goals go_wp2
            (try simp only [Exit.inBlock, Exit.then]); refine bodyPost_ret (results_tmp2 rfl _ _ _) rfl ?_
            have e := part_first_break ltInt d a b pivot hi.out hj.out hdk.out hi2.out hj2.out (by omega)
            exact ⟨by rw [e]; rfl, _, by rw [e]; exact HL4.out⟩

    · go_wp2_with fail
      go_big_quiet (first | (go_at_call 78; refine Calls.quiet_of_same (less_u _ _ _)))
      go_wp2
      have hi2 := Lib.hid (show i' = scanUp (fun x => ltInt x dk[a]!) dk j i from (scanUp_end (fun x => ltInt x dk[a]!) dk j i' (.inl hle)).symm.trans hsc.out)
      have hl0 := HL1.out.more nq
      clear hcw HL1 hsc
      go_loopw [11] (fun vj w2 => ∃ (j' n2 : Nat), vj = .int .i64 j' ∧ j' ≤ j ∧ i' ≤ j' + 1 ∧ Lies w blk off d n2 dk w2 ∧ Hid (scanDown (fun x => !ltInt x dk[a]!) dk i' j' = scanDown (fun x => !ltInt x dk[a]!) dk i' j)) (fun vj _ => (intOf vj).toNat)
      case atStart => exact ⟨j, _, rfl, Nat.le_refl _, hij', hl0, Lib.hid rfl⟩
      case round =>
        clear hl0
        obtain ⟨j', n2, rfl, hjj, hij2, hl2, hsd⟩ := hrel
        have hcw := hl2.cells HH.out HG.out
        have HL2 := Lib.hid hl2
        clear hl2
        by_cases hle2 : i' ≤ j'
        · exfalso; omega
        · go_wp2_with fail
          go_big_quiet (first | (go_at_call 78; refine Calls.quiet_of_same (less_u _ _ _)))
          have hj2 := Lib.hid (show j' = scanDown (fun x => !ltInt x dk[a]!) dk i' j from (scanDown_end (fun x => !ltInt x dk[a]!) dk i' j' (.inl hle2)).symm.trans hsd.out)
          have hl3 := HL2.out.more nq
          clear hcw hsd HL2
          generalize wr.drewN nq = w3 at hl3 ⊢
          have hc3 := hl3.cells HH.out HG.out
          have hf3 := hl3.melts HH.out
          have HL3 := Lib.hid hl3
          clear hl3
          have cja := hc3 j' (by omega)
          have caa := hc3 a (by omega)
          have fja := hf3 j' (by omega)
          have faa := hf3 a (by omega)
          obtain ⟨v4, hy4⟩ := cell?_setCell_some (w := w3) (p := ⟨blk, off + j', none⟩) (x := .int .u64 (G a)) (q := ⟨blk, off + a, none⟩) caa
          have hl4 := HL3.out.swap 1 j' a (by omega) (by omega)
          rw [← HG.out, ← HG.out] at hl4
          have HL4 := Lib.hid hl4
          clear hl4 hc3 hf3
          go_wp2
          go_region
          all_goals go_wp2
          (try simp only [Exit.inBlock, Exit.then]); refine bodyPost_ret (results_tmp2 rfl _ _ _) rfl ?_
          have e := part_first_break ltInt d a b pivot hi.out hj.out hdk.out hi2.out hj2.out (by omega)
          exact ⟨by rw [e]; rfl, _, by rw [e]; exact HL4.out⟩

end Go.Proofs.YtpbnjibomdilhaaGreatDoor.Gph
