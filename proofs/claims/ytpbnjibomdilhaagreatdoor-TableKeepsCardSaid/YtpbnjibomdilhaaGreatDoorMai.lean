/- slices.Sort at []uint64, first part: Less, insertionSort, reverseRange, by their contracts. slices.Sort at []uint64, second part: siftDown, heapSort, by their contracts. -/
import Derived.Test.YtpbnjibomdilhaaGreatDoorProg
import Derived.Sort.WalkA
import Derived.Sort.WalkB3
import Derived.WalkKit
import Derived.Lib.Hide
namespace Go.Proofs.YtpbnjibomdilhaaGreatDoor.Gph
open Go.RowKit Go.Sort

abbrev encU : Int → Value := Value.int .u64

/-- the row of a block holds d (as it was when the call began, but for draws and this row) -/
structure Lies (w : World) (blk off : Nat) (d : Array Int) (n : Nat) (dk : Array Int) (wr : World) : Prop where
  size : dk.size = d.size
  eq : wr = putRow encU (Sort.ahead w n) blk off dk

section
variable {w wr : World} {blk off n : Nat} {d dk : Array Int}
theorem Lies.start (hH : Holds encU w blk off d) : Lies w blk off d 0 d w := ⟨rfl, (putRow_self _ _ _ _ _ hH).symm⟩
theorem Lies.holds (h : Lies w blk off d n dk wr) (hH : Holds encU w blk off d) : Holds encU wr blk off dk := fun t ht => by
  have ht' : t < d.size := by rw [← h.size]; exact ht
  refine ⟨?_, ?_⟩
  · rw [h.eq]; exact cell?_putRow _ _ _ _ d dk (holds_ahead _ _ _ _ _ _ hH) h.size t (by omega)
  · rw [h.eq, frozen?_putRow]; exact ((holds_ahead _ _ n _ _ _ hH) t ht').2
theorem Lies.more (h : Lies w blk off d n dk wr) (q : Nat) : Lies w blk off d (n + q) dk (wr.drewN q) := ⟨h.size, by rw [h.eq]; exact putRow_drewN _ _ _ _ _ _ _⟩
theorem Lies.swap (h : Lies w blk off d n dk wr) (q i j : Nat) (hi : i < d.size) (hj : j < d.size) :
    Lies w blk off d (n + q) (swp dk i j) (((wr.drewN q).setCell ⟨blk, off + i, none⟩ (encU dk[j]!)).setCell ⟨blk, off + j, none⟩ (encU dk[i]!)) :=
  ⟨by rw [size_swp]; exact h.size, by rw [h.eq]; exact swap_worldA encU w n q blk off dk i j (by rw [h.size]; exact hi) (by rw [h.size]; exact hj)⟩
end

theorem isNaN_u (x : Int) (w : World) : Calls Tryz.prog 71 #[.int .u64 x] w fun e w' => e = .returned (.bool false) ∧ w' = w := by
  go_enter Tryz.func71, Tryz.ntmps71
  go_wp2
  go_ret
  exact ⟨by simp, rfl⟩

theorem less_u (x y : Int) (w : World) : Calls Tryz.prog 78 #[.int .u64 x, .int .u64 y] w fun e w' => e = .returned (.bool (Sort.ltInt x y)) ∧ w' = w := by
  go_enter Tryz.func78, Tryz.ntmps78
  go_wp2_with (go_at_call 71; refine (isNaN_u _ _).mono ?_; rintro e w' ⟨rfl, rfl⟩)
  go_ret
  exact ⟨rfl, rfl⟩

set_option maxHeartbeats 1000000 in
theorem insertion_u (blk off cap len a b : Nat) (d : Array Int) (w : World) (hlen : d.size = len) (hH : Holds encU w blk off d) (hab : a ≤ b) (hb : b ≤ len) (hsz : len < 4611686018427387904) :
    Calls Tryz.prog 72 #[.slice (some ⟨blk, off, none⟩) len cap, .int .i64 a, .int .i64 b] w fun e w' =>
      e = .returned (.tuple #[]) ∧ ∃ n, Lies w blk off d n (Sort.insertionSort ltInt d a b) w' := by
  subst hlen
  have HH := Lib.hid hH
  have HL0 := Lib.hid (Lies.start hH)
  clear hH
  go_enter Tryz.func72, Tryz.ntmps72
  go_wp2
  go_loopw [6] (fun vi wr => ∃ (i n : Nat) (dk : Array Int), vi = .int .i64 i ∧ a < i ∧ i ≤ b + 1 ∧ Lies w blk off d n dk wr ∧ insOuter ltInt a b i dk = insOuter ltInt a b (a + 1) d) (fun vi _ => b + 1 - (intOf vi).toNat)
  case atStart => exact ⟨a + 1, 0, d, by go_num, by omega, by omega, HL0.out, rfl⟩
  case round =>
    obtain ⟨i, n, dk, rfl, hai, hib, hl, hO⟩ := hrel
    have HO := Lib.hid hO
    have HL := Lib.hid hl
    clear hO hl
    by_cases hlt : i < b
    · go_wp2
      go_loopw [7] (fun vj wr2 => ∃ (j m : Nat) (dj : Array Int), vj = .int .i64 j ∧ a ≤ j ∧ j ≤ i ∧ Lies w blk off d m dj wr2 ∧ insInner ltInt a j dj = insInner ltInt a i dk) (fun vj _ => (intOf vj).toNat)
      case atStart => exact ⟨i, n, dk, rfl, by omega, Nat.le_refl _, HL.out, rfl⟩
      case round =>
        obtain ⟨j, m, dj, rfl, haj, hji, hl2, hI⟩ := hrel
        obtain ⟨G, hG⟩ : ∃ G : Nat → Int, ∀ t, G t = dj[t]! := ⟨fun t => dj[t]!, fun _ => rfl⟩
        have hcw : ∀ t, t < d.size → wr.cell? ⟨blk, off + t, none⟩ = some (.int .u64 (G t)) := fun t ht => by rw [hG]; exact (hl2.holds HH.out t (by rw [hl2.size]; exact ht)).1
        have hfw : ∀ t, t < d.size → wr.frozen? ⟨blk, off + t, none⟩ = false := fun t ht => (hl2.holds HH.out t (by rw [hl2.size]; exact ht)).2
        have HL2 := Lib.hid hl2
        have HG := Lib.hid hG
        have HI := Lib.hid hI
        have OUT := Lib.hid (show (j ≤ a ∨ ltInt dj[j]! dj[j - 1]! = false) → ∀ q, ∃ i' n' dk', Value.int .i64 ((i : Int) + 1) = .int .i64 (i' : Nat) ∧ a < i' ∧ i' ≤ b + 1 ∧ Lies w blk off d n' dk' (wr.drewN q) ∧ insOuter ltInt a b i' dk' = insOuter ltInt a b (a + 1) d from fun hs q =>
          ⟨i + 1, m + q, dj, by go_num, by omega, by omega, hl2.more q, by rw [← HO.out, insOuter_go _ _ _ _ _ hlt, ← hI, insInner_stop _ _ _ _ hs]⟩)
        clear hl2 hG hI
        by_cases hja : a < j
        · go_wp2
          go_quiet (first | (go_at_call 78; refine Calls.quiet_of_same (less_u _ _ _)))
          go_wp2
          · have hl : ltInt (G j) (G (j - 1)) = true := by assumption
            go_region
            all_goals go_wp2
            go_roundw
            case rel =>
              refine ⟨j - 1, m + (nq + 1), swp dj j (j - 1), by congr 1; omega, by omega, by omega, ?_, ?_⟩
              · rw [HG.out, HG.out]
                exact HL2.out.swap (nq + 1) j (j - 1) (by omega) (by omega)
              · rw [← HI.out, insInner_go ltInt a j dj hja (by rw [← HG.out, ← HG.out]; exact hl)]
            case measure => simp [intOf]; omega
          · have hl : ltInt (G j) (G (j - 1)) = false := by assumption
            go_roundw
            case rel => exact OUT.out (.inr (by rw [← HG.out, ← HG.out]; exact hl)) nq
            case measure => simp [intOf]; omega
        · go_wp2
          go_quiet (first | (go_at_call 78; refine Calls.quiet_of_same (less_u _ _ _)))
          go_wp2
          go_roundw
          case rel => exact OUT.out (.inl (by omega)) nq
          case measure => simp [intOf]; omega
    · go_wp2
      go_end0
      exact ⟨rfl, n, by unfold Sort.insertionSort; rw [← HO.out, insOuter_stop _ _ _ _ _ hlt]; exact HL.out⟩

theorem reverse_u (blk off cap len a b : Nat) (d : Array Int) (w : World) (hlen : d.size = len) (hH : Holds encU w blk off d) (hab : a ≤ b) (hb : b ≤ len) (hsz : len < 4611686018427387904) :
    Calls Tryz.prog 76 #[.slice (some ⟨blk, off, none⟩) len cap, .int .i64 a, .int .i64 b] w fun e w' =>
      e = .returned (.tuple #[]) ∧ ∃ n, Lies w blk off d n (Sort.reverseRange d a b) w' := by
  subst hlen
  have HH := Lib.hid hH
  have HL0 := Lib.hid (Lies.start hH)
  clear hH
  by_cases h0 : a < b
  · go_enter Tryz.func76, Tryz.ntmps76
    go_wp2
    go_loopw [6, 7] (fun vi vj wr => ∃ (i j n : Nat) (dk : Array Int), vi = .int .i64 i ∧ vj = .int .i64 j ∧ a ≤ i ∧ j < b ∧ i ≤ j + 1 ∧ Lies w blk off d n dk wr ∧ reverseLoop i j dk = Sort.reverseRange d a b) (fun vi vj _ => (intOf vj).toNat + 1 - (intOf vi).toNat)
    case atStart => exact ⟨a, b - 1, 0, d, rfl, by go_num, Nat.le_refl _, by omega, by omega, HL0.out, rfl⟩
    case round =>
      obtain ⟨i, j, n, dk, rfl, rfl, hai, hjb, hij, hl, hO⟩ := hrel
      obtain ⟨G, hG⟩ : ∃ G : Nat → Int, ∀ t, G t = dk[t]! := ⟨fun t => dk[t]!, fun _ => rfl⟩
      have hcw : ∀ t, t < d.size → wr.cell? ⟨blk, off + t, none⟩ = some (.int .u64 (G t)) := fun t ht => by rw [hG]; exact (hl.holds HH.out t (by rw [hl.size]; exact ht)).1
      have hfw : ∀ t, t < d.size → wr.frozen? ⟨blk, off + t, none⟩ = false := fun t ht => (hl.holds HH.out t (by rw [hl.size]; exact ht)).2
      have HO := Lib.hid hO
      have HL := Lib.hid hl
      have HG := Lib.hid hG
      clear hO hl hG
      by_cases hlt : i < j
      · go_wp2
        go_region
        all_goals go_wp2
        go_roundw
        case rel =>
          refine ⟨i + 1, j - 1, n + 1, swp dk i j, by go_num, by congr 1; omega, by omega, by omega, by omega, ?_, ?_⟩
          · rw [HG.out, HG.out]
            exact HL.out.swap 1 i j (by omega) (by omega)
          · rw [← HO.out, reverseLoop.eq_def i j, if_pos hlt]
        case measure => simp [intOf]; omega
      · go_wp2
        go_end0
        exact ⟨rfl, n, by rw [← HO.out, reverseLoop, if_neg hlt]; exact HL.out⟩
  · obtain rfl : a = b := by omega
    go_enter Tryz.func76, Tryz.ntmps76
    go_wp2
    go_loopw [6, 7] (fun vi vj wr => vi = .int .i64 a ∧ vj = .int .i64 ((a : Int) - 1) ∧ wr = w) (fun vi vj _ => 0)
    case atStart => exact ⟨rfl, rfl, rfl⟩
    case round =>
      obtain ⟨rfl, rfl, rfl⟩ := hrel
      go_wp2
      go_end0
      exact ⟨rfl, 0, by unfold Sort.reverseRange; rw [reverseLoop, if_neg (by omega)]; exact HL0.out⟩

end Go.Proofs.YtpbnjibomdilhaaGreatDoor.Gph

namespace Go.Proofs.YtpbnjibomdilhaaGreatDoor.Gph
open Go.RowKit Go.Sort

section
variable {w wr : World} {blk off n : Nat} {d dk : Array Int}
/-- what the walk wants of a row: its cells by a family of their own, none frozen -/
theorem Lies.fam (h : Lies w blk off d n dk wr) (hH : Holds encU w blk off d) : ∃ G : Nat → Int, (∀ t, G t = dk[t]!) ∧ (∀ t, t < d.size → wr.cell? ⟨blk, off + t, none⟩ = some (.int .u64 (G t))) ∧ (∀ t, t < d.size → wr.frozen? ⟨blk, off + t, none⟩ = false) :=
  ⟨fun t => dk[t]!, fun _ => rfl, fun t ht => (h.holds hH t (by rw [h.size]; exact ht)).1, fun t ht => (h.holds hH t (by rw [h.size]; exact ht)).2⟩
/-- a call that began with this row -/
theorem Lies.call {d' : Array Int} {m : Nat} {w2 : World} (h : Lies w blk off d n dk wr) (k : Lies wr blk off dk m d' w2) : Lies w blk off d (n + m) d' w2 :=
  ⟨k.size.trans h.size, by rw [k.eq, h.eq]; exact putRow_ahead_putRow encU w n m blk off dk d' k.size⟩
end

set_option maxHeartbeats 2000000 in
theorem siftDown_u (blk off cap len lo hi first : Nat) (d : Array Int) (w : World) (hlen : d.size = len) (hH : Holds encU w blk off d) (hlo : lo ≤ hi) (hb : first + hi ≤ len) (hsz : len < 4611686018427387904) :
    Calls Tryz.prog 90 #[.slice (some ⟨blk, off, none⟩) len cap, .int .i64 lo, .int .i64 hi, .int .i64 first] w fun e w' =>
      e = .returned (.tuple #[]) ∧ ∃ n, Lies w blk off d n (siftDown ltInt hi first lo d) w' := by
  subst hlen
  have HH := Lib.hid hH
  have HL0 := Lib.hid (Lies.start hH)
  clear hH
  go_enter Tryz.func90, Tryz.ntmps90
  go_wp2
  go_loopg [8] (hi - lo) (fun k s8 wr => ∃ (root : Nat) (dk : Array Int) (n : Nat), s8 = .int .i64 root ∧ root ≤ hi ∧ hi - root ≤ k ∧ Lies w blk off d n dk wr ∧ siftDown ltInt hi first root dk = siftDown ltInt hi first lo d)
  case atStart => exact ⟨lo, d, 0, rfl, hlo, Nat.le_refl _, HL0.out, rfl⟩
  case round =>
    obtain ⟨root, dk, n, rfl, hr, hk, hl, hq⟩ := hrel
    obtain ⟨G, hG, hcw, hfw⟩ := hl.fam HH.out
    have HL := Lib.hid hl
    have HQ := Lib.hid hq
    have HG := Lib.hid hG
    clear hl hq hG
    by_cases h0 : hi ≤ 2 * root + 1
    · have h0z : (hi : Int) ≤ 2 * (root : Int) + 1 := by omega
      go_wp2
      go_end0
      refine ⟨rfl, n, ?_⟩
      rw [← HQ.out, sd_end ltInt dk h0]
      exact HL.out
    · have h0z : ¬ ((hi : Int) ≤ 2 * (root : Int) + 1) := by omega
      by_cases h1 : 2 * root + 2 < hi
      · have h1z : 2 * (root : Int) + 1 + 1 < (hi : Int) := by omega
        go_wp2_with fail
        go_big_quiet (first | (go_at_call 78; refine Calls.quiet_of_same (less_u _ _ _)))
        go_wp2_with fail
        · have hL : ltInt (G (first + (2 * root + 1))) (G (first + (2 * root + 2))) = true := by assumption
          revert nq; intro nq1
          have hcw2 : ∀ t, t < d.size → (wr.drewN nq1).cell? ⟨blk, off + t, none⟩ = some (.int .u64 (G t)) := hcw
          have hfw2 : ∀ t, t < d.size → (wr.drewN nq1).frozen? ⟨blk, off + t, none⟩ = false := hfw
          have HL2 := Lib.hid (HL.out.more nq1)
          clear hcw hfw HL
          generalize wr.drewN nq1 = wr2 at hcw2 hfw2 HL2 ⊢
          go_big_quiet (first | (go_at_call 78; refine Calls.quiet_of_same (less_u _ _ _)))
          go_wp2_with fail
          · have hS : ltInt (G (first + root)) (G (first + (2 * root + 2))) = false := by
              have : (!ltInt (G (first + root)) (G (first + (2 * root + 2)))) = true := by assumption
              simpa using this
            (try simp only [Exit.inBlock, Exit.then]); refine bodyPost_ret (results_none rfl _ _ _) rfl ?_
            refine ⟨rfl, n + nq1 + nq, ?_⟩
            rw [← HQ.out, sd_right_stop ltInt dk h1 (by rw [← HG.out, ← HG.out]; exact hL) (by rw [← HG.out, ← HG.out]; exact hS)]
            exact HL2.out.more nq
          · have hS : ltInt (G (first + root)) (G (first + (2 * root + 2))) = true := by
              have : (!ltInt (G (first + root)) (G (first + (2 * root + 2)))) = false := by assumption
              simpa using this
            have hcw3 : ∀ t, t < d.size → (wr2.drewN nq).cell? ⟨blk, off + t, none⟩ = some (.int .u64 (G t)) := hcw2
            have hfw3 : ∀ t, t < d.size → (wr2.drewN nq).frozen? ⟨blk, off + t, none⟩ = false := hfw2
            have HL3 := Lib.hid (HL2.out.more nq)
            clear hcw2 hfw2 HL2
            generalize wr2.drewN nq = wr3 at hcw3 hfw3 HL3 ⊢
            go_region
            all_goals go_wp2
            go_roundg (hi - (2 * root + 2))
            case measure => omega
            case rel =>
              refine ⟨2 * root + 2, swp dk (first + root) (first + (2 * root + 2)), n + nq1 + nq + 1, by go_num, by omega, Nat.le_refl _, ?_, ?_⟩
              · have := HL3.out.swap 1 (first + root) (first + (2 * root + 2)) (by omega) (by omega)
                rw [← HG.out, ← HG.out] at this
                exact this
              · rw [← HQ.out, sd_right_go ltInt dk h1 (by rw [← HG.out, ← HG.out]; exact hL) (by rw [← HG.out, ← HG.out]; exact hS)]
        · have hL : ltInt (G (first + (2 * root + 1))) (G (first + (2 * root + 2))) = false := by assumption
          revert nq; intro nq1
          have hcw2 : ∀ t, t < d.size → (wr.drewN nq1).cell? ⟨blk, off + t, none⟩ = some (.int .u64 (G t)) := hcw
          have hfw2 : ∀ t, t < d.size → (wr.drewN nq1).frozen? ⟨blk, off + t, none⟩ = false := hfw
          have HL2 := Lib.hid (HL.out.more nq1)
          clear hcw hfw HL
          generalize wr.drewN nq1 = wr2 at hcw2 hfw2 HL2 ⊢
          go_big_quiet (first | (go_at_call 78; refine Calls.quiet_of_same (less_u _ _ _)))
          go_wp2_with fail
          · have hS : ltInt (G (first + root)) (G (first + (2 * root + 1))) = false := by
              have : (!ltInt (G (first + root)) (G (first + (2 * root + 1)))) = true := by assumption
              simpa using this
            (try simp only [Exit.inBlock, Exit.then]); refine bodyPost_ret (results_none rfl _ _ _) rfl ?_
            refine ⟨rfl, n + nq1 + nq, ?_⟩
            rw [← HQ.out, sd_left_stop ltInt dk (by omega) (fun _ => (by rw [← HG.out, ← HG.out]; exact hL)) (by rw [← HG.out, ← HG.out]; exact hS)]
            exact HL2.out.more nq
          · have hS : ltInt (G (first + root)) (G (first + (2 * root + 1))) = true := by
              have : (!ltInt (G (first + root)) (G (first + (2 * root + 1)))) = false := by assumption
              simpa using this
            have hcw3 : ∀ t, t < d.size → (wr2.drewN nq).cell? ⟨blk, off + t, none⟩ = some (.int .u64 (G t)) := hcw2
            have hfw3 : ∀ t, t < d.size → (wr2.drewN nq).frozen? ⟨blk, off + t, none⟩ = false := hfw2
            have HL3 := Lib.hid (HL2.out.more nq)
            clear hcw2 hfw2 HL2
            generalize wr2.drewN nq = wr3 at hcw3 hfw3 HL3 ⊢
            go_region
            all_goals go_wp2
            go_roundg (hi - (2 * root + 1))
            case measure => omega
            case rel =>
              refine ⟨2 * root + 1, swp dk (first + root) (first + (2 * root + 1)), n + nq1 + nq + 1, by go_num, by omega, Nat.le_refl _, ?_, ?_⟩
              · have := HL3.out.swap 1 (first + root) (first + (2 * root + 1)) (by omega) (by omega)
                rw [← HG.out, ← HG.out] at this
                exact this
              · rw [← HQ.out, sd_left_go ltInt dk (by omega) (fun _ => (by rw [← HG.out, ← HG.out]; exact hL)) (by rw [← HG.out, ← HG.out]; exact hS)]
      · have h1z : decide (2 * (root : Int) + 1 + 1 < (hi : Int)) = false := decide_eq_false (by omega)
        go_wp2_with fail
        go_big_quiet (first | (go_at_call 78; refine Calls.quiet_of_same (less_u _ _ _)))
        go_wp2_with fail
        revert nq; intro nq1
        have hcw2 : ∀ t, t < d.size → (wr.drewN nq1).cell? ⟨blk, off + t, none⟩ = some (.int .u64 (G t)) := hcw
        have hfw2 : ∀ t, t < d.size → (wr.drewN nq1).frozen? ⟨blk, off + t, none⟩ = false := hfw
        have HL2 := Lib.hid (HL.out.more nq1)
        clear hcw hfw HL
        generalize wr.drewN nq1 = wr2 at hcw2 hfw2 HL2 ⊢
        go_big_quiet (first | (go_at_call 78; refine Calls.quiet_of_same (less_u _ _ _)))
        go_wp2_with fail
        · have hS : ltInt (G (first + root)) (G (first + (2 * root + 1))) = false := by
            have : (!ltInt (G (first + root)) (G (first + (2 * root + 1)))) = true := by assumption
            simpa using this
          (try simp only [Exit.inBlock, Exit.then]); refine bodyPost_ret (results_none rfl _ _ _) rfl ?_
          refine ⟨rfl, n + nq1 + nq, ?_⟩
          rw [← HQ.out, sd_left_stop ltInt dk (by omega) (fun h => absurd h h1) (by rw [← HG.out, ← HG.out]; exact hS)]
          exact HL2.out.more nq
        · have hS : ltInt (G (first + root)) (G (first + (2 * root + 1))) = true := by
            have : (!ltInt (G (first + root)) (G (first + (2 * root + 1)))) = false := by assumption
            simpa using this
          have hcw3 : ∀ t, t < d.size → (wr2.drewN nq).cell? ⟨blk, off + t, none⟩ = some (.int .u64 (G t)) := hcw2
          have hfw3 : ∀ t, t < d.size → (wr2.drewN nq).frozen? ⟨blk, off + t, none⟩ = false := hfw2
          have HL3 := Lib.hid (HL2.out.more nq)
          clear hcw2 hfw2 HL2
          generalize wr2.drewN nq = wr3 at hcw3 hfw3 HL3 ⊢
          go_region
          all_goals go_wp2
          go_roundg (hi - (2 * root + 1))
          case measure => omega
          case rel =>
            refine ⟨2 * root + 1, swp dk (first + root) (first + (2 * root + 1)), n + nq1 + nq + 1, by go_num, by omega, Nat.le_refl _, ?_, ?_⟩
            · have := HL3.out.swap 1 (first + root) (first + (2 * root + 1)) (by omega) (by omega)
              rw [← HG.out, ← HG.out] at this
              exact this
            · rw [← HQ.out, sd_left_go ltInt dk (by omega) (fun h => absurd h h1) (by rw [← HG.out, ← HG.out]; exact hS)]

theorem heap_start {a b : Nat} (hab : a ≤ b) : ((b : Int) - (a : Int) - 1).tdiv 2 = (((b - a - 1) / 2 + 1 : Nat) : Int) - 1 := half_start hab

set_option maxRecDepth 100000 in
set_option maxHeartbeats 2000000 in
theorem heapSort_u (blk off cap len a b : Nat) (d : Array Int) (w : World) (hlen : d.size = len) (hH : Holds encU w blk off d) (hab : a ≤ b) (hb : b ≤ len) (hsz : len < 4611686018427387904) :
    Calls Tryz.prog 73 #[.slice (some ⟨blk, off, none⟩) len cap, .int .i64 a, .int .i64 b] w fun e w' =>
      e = .returned (.tuple #[]) ∧ ∃ n, Lies w blk off d n (heapSort ltInt d a b) w' := by
  subst hlen
  have HH := Lib.hid hH
  have HL0 := Lib.hid (Lies.start hH)
  clear hH
  have ec : (b : Int) - (a : Int) = ((b - a : Nat) : Int) := by omega
  go_enter Tryz.func73, Tryz.ntmps73
  go_wp2
  go_loopg [9] ((b - a - 1) / 2 + 1) (fun k s9 wr => s9 = .int .i64 ((k : Int) - 1) ∧ k ≤ (b - a - 1) / 2 + 1 ∧ ∃ (dk : Array Int) (n : Nat), Lies w blk off d n dk wr ∧ heapBuild ltInt (b - a) a k dk = heapBuild ltInt (b - a) a ((b - a - 1) / 2 + 1) d)
  case atStart => exact ⟨by rw [← ec, heap_start hab], Nat.le_refl _, d, 0, HL0.out, rfl⟩
  case round =>
    obtain ⟨rfl, hkk, dk, n, hl, hq⟩ := hrel
    cases gk with
    | zero =>
      have HB := Lib.hid (show dk = heapBuild ltInt (b - a) a ((b - a - 1) / 2 + 1) d from hq)
      have HL := Lib.hid hl
      clear hq hl hkk
      go_wp2
      go_loopg [10] (b - a) (fun k s10 wr2 => s10 = .int .i64 ((k : Int) - 1) ∧ k ≤ b - a ∧ ∃ (dj : Array Int) (n2 : Nat), Lies w blk off d n2 dj wr2 ∧ heapPop ltInt a k dj = heapPop ltInt a (b - a) dk)
      case atStart => exact ⟨rfl, Nat.le_refl _, dk, n, HL.out, rfl⟩
      case round =>
        obtain ⟨rfl, hkk, dj, n2, hl2, hq2⟩ := hrel
        cases gk with
        | zero =>
          have HL2 := Lib.hid hl2
          have HQ2 := Lib.hid (show dj = heapPop ltInt a (b - a) dk from hq2)
          clear hl2 hq2
          go_wp2
          go_end0
          refine ⟨rfl, n2, ?_⟩
          have e : dj = heapSort ltInt d a b := by rw [heapSort, ← HB.out]; exact HQ2.out
          rw [← e]
          exact HL2.out
        | succ k =>
          obtain ⟨G, hG, hcw, hfw⟩ := hl2.fam HH.out
          have HL2 := Lib.hid hl2
          have HQ2 := Lib.hid (show heapPop ltInt a k (siftDown ltInt k a 0 (swp dj a (a + k))) = heapPop ltInt a (b - a) dk from hq2)
          have HG := Lib.hid hG
          clear hl2 hq2 hG
          rcases Nat.eq_zero_or_pos k with hk0 | hkp
          · subst hk0
            go_wp2_with fail
            go_region
            go_wp2_with fail
            obtain ⟨w2, hw2⟩ : ∃ w2, w2 = ((wr.setCell ⟨blk, off + a, none⟩ (.int .u64 (G a))).setCell ⟨blk, off + a, none⟩ (.int .u64 (G a))).drew := ⟨_, rfl⟩
            have hl3 : Lies w blk off d (n2 + 1) (swp dj a a) w2 := by
              have := HL2.out.swap 1 a a (by omega) (by omega)
              rw [← HG.out] at this
              rw [hw2]; exact this
            have hc := siftDown_u blk off cap d.size 0 0 a (swp dj a a) _ hl3.size (hl3.holds HH.out) (Nat.zero_le _) (by omega) hsz
            change Calls _ _ #[_, .int .i64 0, .int .i64 0, _] _ _ at hc
            rw [← hw2]
            have HL3 := Lib.hid hl3
            have HC := Lib.hid hc
            clear hl3 hc hcw hfw hw2
            (try go_wp2_with fail)
            refine HC.out.mono ?_
            rintro e w1 ⟨rfl, m, hl1⟩
            go_wp2
            go_roundg 0
            case measure => omega
            case rel => exact ⟨by simp, by omega, _, _, HL3.out.call hl1, HQ2.out⟩
          · go_wp2_with fail
            go_region
            go_wp2_with fail
            obtain ⟨w2, hw2⟩ : ∃ w2, w2 = ((wr.setCell ⟨blk, off + a, none⟩ (.int .u64 (G (a + k)))).setCell ⟨blk, off + (a + k), none⟩ (.int .u64 (G a))).drew := ⟨_, rfl⟩
            have hl3 : Lies w blk off d (n2 + 1) (swp dj a (a + k)) w2 := by
              have := HL2.out.swap 1 a (a + k) (by omega) (by omega)
              rw [← HG.out, ← HG.out] at this
              rw [hw2]; exact this
            have hc := siftDown_u blk off cap d.size 0 k a (swp dj a (a + k)) _ hl3.size (hl3.holds HH.out) (Nat.zero_le _) (by omega) hsz
            change Calls _ _ #[_, .int .i64 0, .int .i64 _, _] _ _ at hc
            rw [← hw2]
            have HL3 := Lib.hid hl3
            have HC := Lib.hid hc
            clear hl3 hc hcw hfw hw2
            (try go_wp2_with fail)
            refine HC.out.mono ?_
            rintro e w1 ⟨rfl, m, hl1⟩
            go_wp2
            go_roundg k
            case measure => omega
            case rel => exact ⟨by simp, by omega, _, _, HL3.out.call hl1, HQ2.out⟩
    | succ k =>
      have HL := Lib.hid hl
      have HQ := Lib.hid (show heapBuild ltInt (b - a) a k (siftDown ltInt (b - a) a k dk) = heapBuild ltInt (b - a) a ((b - a - 1) / 2 + 1) d from hq)
      have hcall := siftDown_u blk off cap d.size k (b - a) a dk wr hl.size (hl.holds HH.out) (by omega) (by omega) hsz
      have HC := Lib.hid hcall
      clear hl hq hcall
      go_wp2_with (go_at_call 90; refine HC.out.mono ?_; rintro e w1 ⟨rfl, m, hl1⟩)
      go_roundg k
      case measure => omega
      case rel => exact ⟨by simp, by omega, _, _, HL.out.call hl1, HQ.out⟩

end Go.Proofs.YtpbnjibomdilhaaGreatDoor.Gph
