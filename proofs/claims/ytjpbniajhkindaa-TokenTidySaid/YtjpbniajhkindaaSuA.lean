/- slices.Sort at []uint64, first part: Less, insertionSort, reverseRange, by their contracts. slices.Sort at []uint64, second part: siftDown, heapSort, by their contracts. slices.Sort at []uint64, third part: the two partitions, by their contracts. slices.Sort at []uint64, fourth part: partialInsertionSort, by its contract. -/
import Derived.Test.YtjpbniajhkindaaProg
import Derived.Sort.WalkA
import Derived.Sort.WalkB3
import Derived.WalkKit
import Derived.Lib.Hide
import Derived.Sort.WalkC4
import Derived.Sort.WalkA6
namespace Go.Proofs.Ytjpbniajhkindaa
open Go.RowKit Go.Sort

abbrev encU : Int → Value := Value.int .u64

/-- the row of a block holds d (as it was when the call began, but for draws and this row) -/
structure Lies (w : World) (blk off : Nat) (d : Array Int) (n : Nat) (dk : Array Int) (wr : World) : Prop where
  size : dk.size = d.size
  eq : wr = putRow encU (Sort.ahead w n) blk off dk

section
variable {w wr : World} {blk off n : Nat} {d dk : Array Int}
theorem Lies.start (hH : Holds encU w blk off d) : Lies w blk off d 0 d w := ⟨rfl, (putRow_self _ _ _ _ _ hH).symm⟩
theorem Lies.holds (h : Lies w blk off d n dk wr) (hH : Holds encU w blk off d) : Holds encU wr blk off dk := fun t ht => by
  have ht' : t < d.size := by rw [← h.size]; exact ht
  refine ⟨?_, ?_⟩
  · rw [h.eq]; exact cell?_putRow _ _ _ _ d dk (holds_ahead _ _ _ _ _ _ hH) h.size t (by omega)
  · rw [h.eq, frozen?_putRow]; exact ((holds_ahead _ _ n _ _ _ hH) t ht').2
theorem Lies.more (h : Lies w blk off d n dk wr) (q : Nat) : Lies w blk off d (n + q) dk (wr.drewN q) := ⟨h.size, by rw [h.eq]; exact putRow_drewN _ _ _ _ _ _ _⟩
theorem Lies.swap (h : Lies w blk off d n dk wr) (q i j : Nat) (hi : i < d.size) (hj : j < d.size) :
    Lies w blk off d (n + q) (swp dk i j) (((wr.drewN q).setCell ⟨blk, off + i, none⟩ (encU dk[j]!)).setCell ⟨blk, off + j, none⟩ (encU dk[i]!)) :=
  ⟨by rw [size_swp]; exact h.size, by rw [h.eq]; exact swap_worldA encU w n q blk off dk i j (by rw [h.size]; exact hi) (by rw [h.size]; exact hj)⟩
end

theorem isNaN_u (x : Int) (w : World) : Calls Try.prog 88 #[.int .u64 x] w fun e w' => e = .returned (.bool false) ∧ w' = w := by
  go_enter Try.func88, Try.ntmps88
  go_wp2
  go_ret
  exact ⟨by simp, rfl⟩

theorem less_u (x y : Int) (w : World) : Calls Try.prog 68 #[.int .u64 x, .int .u64 y] w fun e w' => e = .returned (.bool (Sort.ltInt x y)) ∧ w' = w := by
  go_enter Try.func68, Try.ntmps68
  go_wp2_with (go_at_call 88; refine (isNaN_u _ _).mono ?_; rintro e w' ⟨rfl, rfl⟩)
  go_ret
  exact ⟨rfl, rfl⟩

set_option maxHeartbeats 1000000 in
theorem insertion_u (blk off cap len a b : Nat) (d : Array Int) (w : World) (hlen : d.size = len) (hH : Holds encU w blk off d) (hab : a ≤ b) (hb : b ≤ len) (hsz : len < 4611686018427387904) :
    Calls Try.prog 62 #[.slice (some ⟨blk, off, none⟩) len cap, .int .i64 a, .int .i64 b] w fun e w' =>
      e = .returned (.tuple #[]) ∧ ∃ n, Lies w blk off d n (Sort.insertionSort ltInt d a b) w' := by
  subst hlen
  have HH := Lib.hid hH
  have HL0 := Lib.hid (Lies.start hH)
  clear hH
  go_enter Try.func62, Try.ntmps62
  go_wp2
  go_loopw [6] (fun vi wr => ∃ (i n : Nat) (dk : Array Int), vi = .int .i64 i ∧ a < i ∧ i ≤ b + 1 ∧ Lies w blk off d n dk wr ∧ insOuter ltInt a b i dk = insOuter ltInt a b (a + 1) d) (fun vi _ => b + 1 - (intOf vi).toNat)
  case atStart => exact ⟨a + 1, 0, d, by go_num, by omega, by omega, HL0.out, rfl⟩
  case round =>
    obtain ⟨i, n, dk, rfl, hai, hib, hl, hO⟩ := hrel
    have HO := Lib.hid hO
    have HL := Lib.hid hl
    clear hO hl
    by_cases hlt : i < b
    · go_wp2
      go_loopw [7] (fun vj wr2 => ∃ (j m : Nat) (dj : Array Int), vj = .int .i64 j ∧ a ≤ j ∧ j ≤ i ∧ Lies w blk off d m dj wr2 ∧ insInner ltInt a j dj = insInner ltInt a i dk) (fun vj _ => (intOf vj).toNat)
      case atStart => exact ⟨i, n, dk, rfl, by omega, Nat.le_refl _, HL.out, rfl⟩
      case round =>
        obtain ⟨j, m, dj, rfl, haj, hji, hl2, hI⟩ := hrel
        obtain ⟨G, hG⟩ : ∃ G : Nat → Int, ∀ t, G t = dj[t]! := ⟨fun t => dj[t]!, fun _ => rfl⟩
        have hcw : ∀ t, t < d.size → wr.cell? ⟨blk, off + t, none⟩ = some (.int .u64 (G t)) := fun t ht => by rw [hG]; exact (hl2.holds HH.out t (by rw [hl2.size]; exact ht)).1
        have hfw : ∀ t, t < d.size → wr.frozen? ⟨blk, off + t, none⟩ = false := fun t ht => (hl2.holds HH.out t (by rw [hl2.size]; exact ht)).2
        have HL2 := Lib.hid hl2
        have HG := Lib.hid hG
        have HI := Lib.hid hI
        have OUT := Lib.hid (show (j ≤ a ∨ ltInt dj[j]! dj[j - 1]! = false) → ∀ q, ∃ i' n' dk', Value.int .i64 ((i : Int) + 1) = .int .i64 (i' : Nat) ∧ a < i' ∧ i' ≤ b + 1 ∧ Lies w blk off d n' dk' (wr.drewN q) ∧ insOuter ltInt a b i' dk' = insOuter ltInt a b (a + 1) d from fun hs q =>
          ⟨i + 1, m + q, dj, by go_num, by omega, by omega, hl2.more q, by rw [← HO.out, insOuter_go _ _ _ _ _ hlt, ← hI, insInner_stop _ _ _ _ hs]⟩)
        clear hl2 hG hI
        by_cases hja : a < j
        · go_wp2
          go_quiet (first | (go_at_call 68; refine Calls.quiet_of_same (less_u _ _ _)))
          go_wp2
          · have hl : ltInt (G j) (G (j - 1)) = true := by assumption
            go_region
            all_goals go_wp2
            go_roundw
            case rel =>
              refine ⟨j - 1, m + (nq + 1), swp dj j (j - 1), by congr 1; omega, by omega, by omega, ?_, ?_⟩
              · rw [HG.out, HG.out]
                exact HL2.out.swap (nq + 1) j (j - 1) (by omega) (by omega)
              · rw [← HI.out, insInner_go ltInt a j dj hja (by rw [← HG.out, ← HG.out]; exact hl)]
            case measure => simp [intOf]; omega
          · have hl : ltInt (G j) (G (j - 1)) = false := by assumption
            go_roundw
            case rel => exact OUT.out (.inr (by rw [← HG.out, ← HG.out]; exact hl)) nq
            case measure => simp [intOf]; omega
        · go_wp2
          go_quiet (first | (go_at_call 68; refine Calls.quiet_of_same (less_u _ _ _)))
          go_wp2
          go_roundw
          case rel => exact OUT.out (.inl (by omega)) nq
          case measure => simp [intOf]; omega
    · go_wp2
      go_end0
      exact ⟨rfl, n, by unfold Sort.insertionSort; rw [← HO.out, insOuter_stop _ _ _ _ _ hlt]; exact HL.out⟩

theorem reverse_u (blk off cap len a b : Nat) (d : Array Int) (w : World) (hlen : d.size = len) (hH : Holds encU w blk off d) (hab : a ≤ b) (hb : b ≤ len) (hsz : len < 4611686018427387904) :
    Calls Try.prog 66 #[.slice (some ⟨blk, off, none⟩) len cap, .int .i64 a, .int .i64 b] w fun e w' =>
      e = .returned (.tuple #[]) ∧ ∃ n, Lies w blk off d n (Sort.reverseRange d a b) w' := by
  subst hlen
  have HH := Lib.hid hH
  have HL0 := Lib.hid (Lies.start hH)
  clear hH
  by_cases h0 : a < b
  · go_enter Try.func66, Try.ntmps66
    go_wp2
    go_loopw [6, 7] (fun vi vj wr => ∃ (i j n : Nat) (dk : Array Int), vi = .int .i64 i ∧ vj = .int .i64 j ∧ a ≤ i ∧ j < b ∧ i ≤ j + 1 ∧ Lies w blk off d n dk wr ∧ reverseLoop i j dk = Sort.reverseRange d a b) (fun vi vj _ => (intOf vj).toNat + 1 - (intOf vi).toNat)
    case atStart => exact ⟨a, b - 1, 0, d, rfl, by go_num, Nat.le_refl _, by omega, by omega, HL0.out, rfl⟩
    case round =>
      obtain ⟨i, j, n, dk, rfl, rfl, hai, hjb, hij, hl, hO⟩ := hrel
      obtain ⟨G, hG⟩ : ∃ G : Nat → Int, ∀ t, G t = dk[t]! := ⟨fun t => dk[t]!, fun _ => rfl⟩
      have hcw : ∀ t, t < d.size → wr.cell? ⟨blk, off + t, none⟩ = some (.int .u64 (G t)) := fun t ht => by rw [hG]; exact (hl.holds HH.out t (by rw [hl.size]; exact ht)).1
      have hfw : ∀ t, t < d.size → wr.frozen? ⟨blk, off + t, none⟩ = false := fun t ht => (hl.holds HH.out t (by rw [hl.size]; exact ht)).2
      have HO := Lib.hid hO
      have HL := Lib.hid hl
      have HG := Lib.hid hG
      clear hO hl hG
      by_cases hlt : i < j
      · go_wp2
        go_region
        all_goals go_wp2
        go_roundw
        case rel =>
          refine ⟨i + 1, j - 1, n + 1, swp dk i j, by go_num, by congr 1; omega, by omega, by omega, by omega, ?_, ?_⟩
          · rw [HG.out, HG.out]
            exact HL.out.swap 1 i j (by omega) (by omega)
          · rw [← HO.out, reverseLoop.eq_def i j, if_pos hlt]
        case measure => simp [intOf]; omega
      · go_wp2
        go_end0
        exact ⟨rfl, n, by rw [← HO.out, reverseLoop, if_neg hlt]; exact HL.out⟩
  · obtain rfl : a = b := by omega
    go_enter Try.func66, Try.ntmps66
    go_wp2
    go_loopw [6, 7] (fun vi vj wr => vi = .int .i64 a ∧ vj = .int .i64 ((a : Int) - 1) ∧ wr = w) (fun vi vj _ => 0)
    case atStart => exact ⟨rfl, rfl, rfl⟩
    case round =>
      obtain ⟨rfl, rfl, rfl⟩ := hrel
      go_wp2
      go_end0
      exact ⟨rfl, 0, by unfold Sort.reverseRange; rw [reverseLoop, if_neg (by omega)]; exact HL0.out⟩

end Go.Proofs.Ytjpbniajhkindaa

namespace Go.Proofs.Ytjpbniajhkindaa
open Go.RowKit Go.Sort

section
variable {w wr : World} {blk off n : Nat} {d dk : Array Int}
/-- what the walk wants of a row: its cells by a family of their own, none frozen -/
theorem Lies.fam (h : Lies w blk off d n dk wr) (hH : Holds encU w blk off d) : ∃ G : Nat → Int, (∀ t, G t = dk[t]!) ∧ (∀ t, t < d.size → wr.cell? ⟨blk, off + t, none⟩ = some (.int .u64 (G t))) ∧ (∀ t, t < d.size → wr.frozen? ⟨blk, off + t, none⟩ = false) :=
  ⟨fun t => dk[t]!, fun _ => rfl, fun t ht => (h.holds hH t (by rw [h.size]; exact ht)).1, fun t ht => (h.holds hH t (by rw [h.size]; exact ht)).2⟩
/-- a call that began with this row -/
theorem Lies.call {d' : Array Int} {m : Nat} {w2 : World} (h : Lies w blk off d n dk wr) (k : Lies wr blk off dk m d' w2) : Lies w blk off d (n + m) d' w2 :=
  ⟨k.size.trans h.size, by rw [k.eq, h.eq]; exact putRow_ahead_putRow encU w n m blk off dk d' k.size⟩
end

set_option maxHeartbeats 2000000 in
theorem siftDown_u (blk off cap len lo hi first : Nat) (d : Array Int) (w : World) (hlen : d.size = len) (hH : Holds encU w blk off d) (hlo : lo ≤ hi) (hb : first + hi ≤ len) (hsz : len < 4611686018427387904) :
    Calls Try.prog 83 #[.slice (some ⟨blk, off, none⟩) len cap, .int .i64 lo, .int .i64 hi, .int .i64 first] w fun e w' =>
      e = .returned (.tuple #[]) ∧ ∃ n, Lies w blk off d n (siftDown ltInt hi first lo d) w' := by
  subst hlen
  have HH := Lib.hid hH
  have HL0 := Lib.hid (Lies.start hH)
  clear hH
  go_enter Try.func83, Try.ntmps83
  go_wp2
  go_loopg [8] (hi - lo) (fun k s8 wr => ∃ (root : Nat) (dk : Array Int) (n : Nat), s8 = .int .i64 root ∧ root ≤ hi ∧ hi - root ≤ k ∧ Lies w blk off d n dk wr ∧ siftDown ltInt hi first root dk = siftDown ltInt hi first lo d)
  case atStart => exact ⟨lo, d, 0, rfl, hlo, Nat.le_refl _, HL0.out, rfl⟩
  case round =>
    obtain ⟨root, dk, n, rfl, hr, hk, hl, hq⟩ := hrel
    obtain ⟨G, hG, hcw, hfw⟩ := hl.fam HH.out
    have HL := Lib.hid hl
    have HQ := Lib.hid hq
    have HG := Lib.hid hG
    clear hl hq hG
    by_cases h0 : hi ≤ 2 * root + 1
    · have h0z : (hi : Int) ≤ 2 * (root : Int) + 1 := by omega
      go_wp2
      go_end0
      refine ⟨rfl, n, ?_⟩
      rw [← HQ.out, sd_end ltInt dk h0]
      exact HL.out
    · have h0z : ¬ ((hi : Int) ≤ 2 * (root : Int) + 1) := by omega
      by_cases h1 : 2 * root + 2 < hi
      · have h1z : 2 * (root : Int) + 1 + 1 < (hi : Int) := by omega
        go_wp2_with fail
        go_big_quiet (first | (go_at_call 68; refine Calls.quiet_of_same (less_u _ _ _)))
        go_wp2_with fail
        · have hL : ltInt (G (first + (2 * root + 1))) (G (first + (2 * root + 2))) = true := by assumption
          revert nq; intro nq1
          have hcw2 : ∀ t, t < d.size → (wr.drewN nq1).cell? ⟨blk, off + t, none⟩ = some (.int .u64 (G t)) := hcw
          have hfw2 : ∀ t, t < d.size → (wr.drewN nq1).frozen? ⟨blk, off + t, none⟩ = false := hfw
          have HL2 := Lib.hid (HL.out.more nq1)
          clear hcw hfw HL
          generalize wr.drewN nq1 = wr2 at hcw2 hfw2 HL2 ⊢
          go_big_quiet (first | (go_at_call 68; refine Calls.quiet_of_same (less_u _ _ _)))
          go_wp2_with fail
          · have hS : ltInt (G (first + root)) (G (first + (2 * root + 2))) = false := by
              have : (!ltInt (G (first + root)) (G (first + (2 * root + 2)))) = true := by assumption
              simpa using this
            (try simp only [Exit.inBlock, Exit.then]); refine bodyPost_ret (results_none rfl _ _ _) rfl ?_
            refine ⟨rfl, n + nq1 + nq, ?_⟩
            rw [← HQ.out, sd_right_stop ltInt dk h1 (by rw [← HG.out, ← HG.out]; exact hL) (by rw [← HG.out, ← HG.out]; exact hS)]
            exact HL2.out.more nq
          · have hS : ltInt (G (first + root)) (G (first + (2 * root + 2))) = true := by
              have : (!ltInt (G (first + root)) (G (first + (2 * root + 2)))) = false := by assumption
              simpa using this
            have hcw3 : ∀ t, t < d.size → (wr2.drewN nq).cell? ⟨blk, off + t, none⟩ = some (.int .u64 (G t)) := hcw2
            have hfw3 : ∀ t, t < d.size → (wr2.drewN nq).frozen? ⟨blk, off + t, none⟩ = false := hfw2
            have HL3 := Lib.hid (HL2.out.more nq)
            clear hcw2 hfw2 HL2
            generalize wr2.drewN nq = wr3 at hcw3 hfw3 HL3 ⊢
            go_region
            all_goals go_wp2
            go_roundg (hi - (2 * root + 2))
            case measure => omega
            case rel =>
              refine ⟨2 * root + 2, swp dk (first + root) (first + (2 * root + 2)), n + nq1 + nq + 1, by go_num, by omega, Nat.le_refl _, ?_, ?_⟩
              · have := HL3.out.swap 1 (first + root) (first + (2 * root + 2)) (by omega) (by omega)
                rw [← HG.out, ← HG.out] at this
                exact this
              · rw [← HQ.out, sd_right_go ltInt dk h1 (by rw [← HG.out, ← HG.out]; exact hL) (by rw [← HG.out, ← HG.out]; exact hS)]
        · have hL : ltInt (G (first + (2 * root + 1))) (G (first + (2 * root + 2))) = false := by assumption
          revert nq; intro nq1
          have hcw2 : ∀ t, t < d.size → (wr.drewN nq1).cell? ⟨blk, off + t, none⟩ = some (.int .u64 (G t)) := hcw
          have hfw2 : ∀ t, t < d.size → (wr.drewN nq1).frozen? ⟨blk, off + t, none⟩ = false := hfw
          have HL2 := Lib.hid (HL.out.more nq1)
          clear hcw hfw HL
          generalize wr.drewN nq1 = wr2 at hcw2 hfw2 HL2 ⊢
          go_big_quiet (first | (go_at_call 68; refine Calls.quiet_of_same (less_u _ _ _)))
          go_wp2_with fail
          · have hS : ltInt (G (first + root)) (G (first + (2 * root + 1))) = false := by
              have : (!ltInt (G (first + root)) (G (first + (2 * root + 1)))) = true := by assumption
              simpa using this
            (try simp only [Exit.inBlock, Exit.then]); refine bodyPost_ret (results_none rfl _ _ _) rfl ?_
            refine ⟨rfl, n + nq1 + nq, ?_⟩
            rw [← HQ.out, sd_left_stop ltInt dk (by omega) (fun _ => (by rw [← HG.out, ← HG.out]; exact hL)) (by rw [← HG.out, ← HG.out]; exact hS)]
            exact HL2.out.more nq
          · have hS : ltInt (G (first + root)) (G (first + (2 * root + 1))) = true := by
              have : (!ltInt (G (first + root)) (G (first + (2 * root + 1)))) = false := by assumption
              simpa using this
            have hcw3 : ∀ t, t < d.size → (wr2.drewN nq).cell? ⟨blk, off + t, none⟩ = some (.int .u64 (G t)) := hcw2
            have hfw3 : ∀ t, t < d.size → (wr2.drewN nq).frozen? ⟨blk, off + t, none⟩ = false := hfw2
            have HL3 := Lib.hid (HL2.out.more nq)
            clear hcw2 hfw2 HL2
            generalize wr2.drewN nq = wr3 at hcw3 hfw3 HL3 ⊢
            go_region
            all_goals go_wp2
            go_roundg (hi - (2 * root + 1))
            case measure => omega
            case rel =>
              refine ⟨2 * root + 1, swp dk (first + root) (first + (2 * root + 1)), n + nq1 + nq + 1, by go_num, by omega, Nat.le_refl _, ?_, ?_⟩
              · have := HL3.out.swap 1 (first + root) (first + (2 * root + 1)) (by omega) (by omega)
                rw [← HG.out, ← HG.out] at this
                exact this
              · rw [← HQ.out, sd_left_go ltInt dk (by omega) (fun _ => (by rw [← HG.out, ← HG.out]; exact hL)) (by rw [← HG.out, ← HG.out]; exact hS)]
      · have h1z : decide (2 * (root : Int) + 1 + 1 < (hi : Int)) = false := decide_eq_false (by omega)
        go_wp2_with fail
        go_big_quiet (first | (go_at_call 68; refine Calls.quiet_of_same (less_u _ _ _)))
        go_wp2_with fail
        revert nq; intro nq1
        have hcw2 : ∀ t, t < d.size → (wr.drewN nq1).cell? ⟨blk, off + t, none⟩ = some (.int .u64 (G t)) := hcw
        have hfw2 : ∀ t, t < d.size → (wr.drewN nq1).frozen? ⟨blk, off + t, none⟩ = false := hfw
        have HL2 := Lib.hid (HL.out.more nq1)
        clear hcw hfw HL
        generalize wr.drewN nq1 = wr2 at hcw2 hfw2 HL2 ⊢
        go_big_quiet (first | (go_at_call 68; refine Calls.quiet_of_same (less_u _ _ _)))
        go_wp2_with fail
        · have hS : ltInt (G (first + root)) (G (first + (2 * root + 1))) = false := by
            have : (!ltInt (G (first + root)) (G (first + (2 * root + 1)))) = true := by assumption
            simpa using this
          (try simp only [Exit.inBlock, Exit.then]); refine bodyPost_ret (results_none rfl _ _ _) rfl ?_
          refine ⟨rfl, n + nq1 + nq, ?_⟩
          rw [← HQ.out, sd_left_stop ltInt dk (by omega) (fun h => absurd h h1) (by rw [← HG.out, ← HG.out]; exact hS)]
          exact HL2.out.more nq
        · have hS : ltInt (G (first + root)) (G (first + (2 * root + 1))) = true := by
            have : (!ltInt (G (first + root)) (G (first + (2 * root + 1)))) = false := by assumption
            simpa using this
          have hcw3 : ∀ t, t < d.size → (wr2.drewN nq).cell? ⟨blk, off + t, none⟩ = some (.int .u64 (G t)) := hcw2
          have hfw3 : ∀ t, t < d.size → (wr2.drewN nq).frozen? ⟨blk, off + t, none⟩ = false := hfw2
          have HL3 := Lib.hid (HL2.out.more nq)
          clear hcw2 hfw2 HL2
          generalize wr2.drewN nq = wr3 at hcw3 hfw3 HL3 ⊢
          go_region
          all_goals go_wp2
          go_roundg (hi - (2 * root + 1))
          case measure => omega
          case rel =>
            refine ⟨2 * root + 1, swp dk (first + root) (first + (2 * root + 1)), n + nq1 + nq + 1, by go_num, by omega, Nat.le_refl _, ?_, ?_⟩
            · have := HL3.out.swap 1 (first + root) (first + (2 * root + 1)) (by omega) (by omega)
              rw [← HG.out, ← HG.out] at this
              exact this
            · rw [← HQ.out, sd_left_go ltInt dk (by omega) (fun h => absurd h h1) (by rw [← HG.out, ← HG.out]; exact hS)]

theorem heap_start {a b : Nat} (hab : a ≤ b) : ((b : Int) - (a : Int) - 1).tdiv 2 = (((b - a - 1) / 2 + 1 : Nat) : Int) - 1 := half_start hab

set_option maxRecDepth 100000 in
set_option maxHeartbeats 2000000 in
theorem heapSort_u (blk off cap len a b : Nat) (d : Array Int) (w : World) (hlen : d.size = len) (hH : Holds encU w blk off d) (hab : a ≤ b) (hb : b ≤ len) (hsz : len < 4611686018427387904) :
    Calls Try.prog 63 #[.slice (some ⟨blk, off, none⟩) len cap, .int .i64 a, .int .i64 b] w fun e w' =>
      e = .returned (.tuple #[]) ∧ ∃ n, Lies w blk off d n (heapSort ltInt d a b) w' := by
  subst hlen
  have HH := Lib.hid hH
  have HL0 := Lib.hid (Lies.start hH)
  clear hH
  have ec : (b : Int) - (a : Int) = ((b - a : Nat) : Int) := by omega
  go_enter Try.func63, Try.ntmps63
  go_wp2
  go_loopg [9] ((b - a - 1) / 2 + 1) (fun k s9 wr => s9 = .int .i64 ((k : Int) - 1) ∧ k ≤ (b - a - 1) / 2 + 1 ∧ ∃ (dk : Array Int) (n : Nat), Lies w blk off d n dk wr ∧ heapBuild ltInt (b - a) a k dk = heapBuild ltInt (b - a) a ((b - a - 1) / 2 + 1) d)
  case atStart => exact ⟨by rw [← ec, heap_start hab], Nat.le_refl _, d, 0, HL0.out, rfl⟩
  case round =>
    obtain ⟨rfl, hkk, dk, n, hl, hq⟩ := hrel
    cases gk with
    | zero =>
      have HB := Lib.hid (show dk = heapBuild ltInt (b - a) a ((b - a - 1) / 2 + 1) d from hq)
      have HL := Lib.hid hl
      clear hq hl hkk
      go_wp2
      go_loopg [10] (b - a) (fun k s10 wr2 => s10 = .int .i64 ((k : Int) - 1) ∧ k ≤ b - a ∧ ∃ (dj : Array Int) (n2 : Nat), Lies w blk off d n2 dj wr2 ∧ heapPop ltInt a k dj = heapPop ltInt a (b - a) dk)
      case atStart => exact ⟨rfl, Nat.le_refl _, dk, n, HL.out, rfl⟩
      case round =>
        obtain ⟨rfl, hkk, dj, n2, hl2, hq2⟩ := hrel
        cases gk with
        | zero =>
          have HL2 := Lib.hid hl2
          have HQ2 := Lib.hid (show dj = heapPop ltInt a (b - a) dk from hq2)
          clear hl2 hq2
          go_wp2
          go_end0
          refine ⟨rfl, n2, ?_⟩
          have e : dj = heapSort ltInt d a b := by rw [heapSort, ← HB.out]; exact HQ2.out
          rw [← e]
          exact HL2.out
        | succ k =>
          obtain ⟨G, hG, hcw, hfw⟩ := hl2.fam HH.out
          have HL2 := Lib.hid hl2
          have HQ2 := Lib.hid (show heapPop ltInt a k (siftDown ltInt k a 0 (swp dj a (a + k))) = heapPop ltInt a (b - a) dk from hq2)
          have HG := Lib.hid hG
          clear hl2 hq2 hG
          rcases Nat.eq_zero_or_pos k with hk0 | hkp
          · subst hk0
            go_wp2_with fail
            go_region
            go_wp2_with fail
            obtain ⟨w2, hw2⟩ : ∃ w2, w2 = ((wr.setCell ⟨blk, off + a, none⟩ (.int .u64 (G a))).setCell ⟨blk, off + a, none⟩ (.int .u64 (G a))).drew := ⟨_, rfl⟩
            have hl3 : Lies w blk off d (n2 + 1) (swp dj a a) w2 := by
              have := HL2.out.swap 1 a a (by omega) (by omega)
              rw [← HG.out] at this
              rw [hw2]; exact this
            have hc := siftDown_u blk off cap d.size 0 0 a (swp dj a a) _ hl3.size (hl3.holds HH.out) (Nat.zero_le _) (by omega) hsz
            change Calls _ _ #[_, .int .i64 0, .int .i64 0, _] _ _ at hc
            rw [← hw2]
            have HL3 := Lib.hid hl3
            have HC := Lib.hid hc
            clear hl3 hc hcw hfw hw2
            (try go_wp2_with fail)
            refine HC.out.mono ?_
            rintro e w1 ⟨rfl, m, hl1⟩
            go_wp2
            go_roundg 0
            case measure => omega
            case rel => exact ⟨by simp, by omega, _, _, HL3.out.call hl1, HQ2.out⟩
          · go_wp2_with fail
            go_region
            go_wp2_with fail
            obtain ⟨w2, hw2⟩ : ∃ w2, w2 = ((wr.setCell ⟨blk, off + a, none⟩ (.int .u64 (G (a + k)))).setCell ⟨blk, off + (a + k), none⟩ (.int .u64 (G a))).drew := ⟨_, rfl⟩
            have hl3 : Lies w blk off d (n2 + 1) (swp dj a (a + k)) w2 := by
              have := HL2.out.swap 1 a (a + k) (by omega) (by omega)
              rw [← HG.out, ← HG.out] at this
              rw [hw2]; exact this
            have hc := siftDown_u blk off cap d.size 0 k a (swp dj a (a + k)) _ hl3.size (hl3.holds HH.out) (Nat.zero_le _) (by omega) hsz
            change Calls _ _ #[_, .int .i64 0, .int .i64 _, _] _ _ at hc
            rw [← hw2]
            have HL3 := Lib.hid hl3
            have HC := Lib.hid hc
            clear hl3 hc hcw hfw hw2
            (try go_wp2_with fail)
            refine HC.out.mono ?_
            rintro e w1 ⟨rfl, m, hl1⟩
            go_wp2
            go_roundg k
            case measure => omega
            case rel => exact ⟨by simp, by omega, _, _, HL3.out.call hl1, HQ2.out⟩
    | succ k =>
      have HL := Lib.hid hl
      have HQ := Lib.hid (show heapBuild ltInt (b - a) a k (siftDown ltInt (b - a) a k dk) = heapBuild ltInt (b - a) a ((b - a - 1) / 2 + 1) d from hq)
      have hcall := siftDown_u blk off cap d.size k (b - a) a dk wr hl.size (hl.holds HH.out) (by omega) (by omega) hsz
      have HC := Lib.hid hcall
      clear hl hq hcall
      go_wp2_with (go_at_call 83; refine HC.out.mono ?_; rintro e w1 ⟨rfl, m, hl1⟩)
      go_roundg k
      case measure => omega
      case rel => exact ⟨by simp, by omega, _, _, HL.out.call hl1, HQ.out⟩

end Go.Proofs.Ytjpbniajhkindaa

namespace Go.Proofs.Ytjpbniajhkindaa
open Go.RowKit Go.Sort

section
variable {w wr : World} {blk off n : Nat} {d dk : Array Int} {G : Nat → Int}
theorem Lies.cells (h : Lies w blk off d n dk wr) (hH : Holds encU w blk off d) (hG : ∀ t, G t = dk[t]!) : ∀ t, t < d.size → wr.cell? ⟨blk, off + t, none⟩ = some (.int .u64 (G t)) :=
  fun t ht => by rw [hG]; exact (h.holds hH t (by rw [h.size]; exact ht)).1
theorem Lies.melts (h : Lies w blk off d n dk wr) (hH : Holds encU w blk off d) : ∀ t, t < d.size → wr.frozen? ⟨blk, off + t, none⟩ = false :=
  fun t ht => (h.holds hH t (by rw [h.size]; exact ht)).2
end

set_option maxHeartbeats 6400000 in
set_option maxRecDepth 100000 in
theorem partEqual_u (blk off cap len a b pivot : Nat) (d : Array Int) (w : World) (hlen : d.size = len) (hH : Holds encU w blk off d) (hap : a ≤ pivot) (hpb : pivot < b) (hb : b ≤ len) (hsz : len < 4611686018427387904) :
    Calls Try.prog 69 #[.slice (some ⟨blk, off, none⟩) len cap, .int .i64 a, .int .i64 b, .int .i64 pivot] w fun e w' =>
      e = .returned (.int .i64 (Sort.partitionEqual ltInt d a b pivot).1) ∧ ∃ n, Lies w blk off d n (Sort.partitionEqual ltInt d a b pivot).2 w' := by
  subst hlen
  have HH := Lib.hid hH
  have HL0 := Lib.hid (Lies.start hH)
  obtain ⟨G, hG, hcw, hfw⟩ := (Lies.start hH).fam hH
  have HG := Lib.hid hG
  clear hH hG
  have ca : w.cell? ⟨blk, off + a, none⟩ = some (.int .u64 (G a)) := hcw a (by omega)
  have cp : w.cell? ⟨blk, off + pivot, none⟩ = some (.int .u64 (G pivot)) := hcw pivot (by omega)
  have fa := hfw a (by omega)
  have fp := hfw pivot (by omega)
  obtain ⟨v', hy'⟩ := cell?_setCell_some (w := w) (p := ⟨blk, off + a, none⟩) (x := .int .u64 (G pivot)) (q := ⟨blk, off + pivot, none⟩) cp
  have hl1 : Lies w blk off d 1 (swp d a pivot) (((w.setCell ⟨blk, off + a, none⟩ (.int .u64 (G pivot))).setCell ⟨blk, off + pivot, none⟩ (.int .u64 (G a))).drew) := by
    have := HL0.out.swap 1 a pivot (by omega) (by omega)
    rw [← HG.out, ← HG.out] at this
    rw [show (1 : Nat) = 0 + 1 from rfl]; exact this
  have HL1 := Lib.hid hl1
  clear hcw hfw hl1
  go_enter Try.func69, Try.ntmps69
  go_wp2
  go_region
  go_wp2
  go_loopw [9, 10] (fun vi vj wr => ∃ (i j n : Nat) (dk : Array Int), vi = .int .i64 i ∧ vj = .int .i64 j ∧ a < i ∧ i ≤ j + 1 ∧ j < b ∧ Lies w blk off d n dk wr ∧ partEqLoop ltInt a i j dk = partEqLoop ltInt a (a + 1) (b - 1) (swp d a pivot)) (fun vi vj _ => (intOf vj).toNat + 1 - (intOf vi).toNat)
  case atStart => exact ⟨a + 1, b - 1, 1, swp d a pivot, by go_num, by go_num, by omega, by omega, by omega, HL1.out, rfl⟩
  case round =>
    obtain ⟨i, j, n, dk, rfl, rfl, hai, hij, hjb, hl, hq⟩ := hrel
    clear ca cp fa fp hy' v' HL1 HG
    obtain ⟨G, hG⟩ : ∃ G : Nat → Int, ∀ t, G t = dk[t]! := ⟨fun t => dk[t]!, fun _ => rfl⟩
    have HG := Lib.hid hG
    have HL := Lib.hid hl
    have HQ := Lib.hid hq
    clear hG hl hq
    go_wp2
    go_loopw [9] (fun vi w1 => ∃ (i' n1 : Nat), vi = .int .i64 i' ∧ i ≤ i' ∧ i' ≤ j + 1 ∧ Lies w blk off d n1 dk w1 ∧ Hid (scanUp (fun x => !ltInt dk[a]! x) dk j i' = scanUp (fun x => !ltInt dk[a]! x) dk j i)) (fun vi _ => j + 1 - (intOf vi).toNat)
    case atStart => exact ⟨i, _, rfl, Nat.le_refl _, hij, HL.out, Lib.hid rfl⟩
    case round =>
      obtain ⟨i', n1, rfl, hii, hij', hl1, hsc⟩ := hrel
      have hcw := hl1.cells HH.out HG.out
      have HL1 := Lib.hid hl1
      clear hl1
      by_cases hle : i' ≤ j
      · go_wp2_with fail
        go_big_quiet (first | (go_at_call 68; refine Calls.quiet_of_same (less_u _ _ _)))
        go_wp2
        · have ht : (!ltInt (G a) (G i')) = true := by assumption
          go_roundw
          case rel => exact ⟨i' + 1, n1 + nq, by go_num, by omega, by omega, HL1.out.more nq, Lib.hid ((scanUp_go (fun x => !ltInt dk[a]! x) dk j i' hle (by rw [← HG.out, ← HG.out]; exact ht)).symm.trans hsc.out)⟩
          case measure => simp [intOf]; omega
        · have ht : (!ltInt (G a) (G i')) = false := by assumption
          have hi2 := Lib.hid (show i' = scanUp (fun x => !ltInt dk[a]! x) dk j i from (scanUp_end (fun x => !ltInt dk[a]! x) dk j i' (.inr (by rw [← HG.out, ← HG.out]; exact ht))).symm.trans hsc.out)
          clear ht
          have hl0 := HL1.out.more nq
          clear hcw HL1 hsc
          go_loopw [10] (fun vj w2 => ∃ (j' n2 : Nat), vj = .int .i64 j' ∧ j' ≤ j ∧ i' ≤ j' + 1 ∧ Lies w blk off d n2 dk w2 ∧ Hid (scanDown (fun x => ltInt dk[a]! x) dk i' j' = scanDown (fun x => ltInt dk[a]! x) dk i' j)) (fun vj _ => (intOf vj).toNat)
          case atStart => exact ⟨j, _, rfl, Nat.le_refl _, hij', hl0, Lib.hid rfl⟩
          case round =>
            clear hl0
            obtain ⟨j', n2, rfl, hjj, hij2, hl2, hsd⟩ := hrel
            have hcw := hl2.cells HH.out HG.out
            have HL2 := Lib.hid hl2
            clear hl2
            by_cases hle2 : i' ≤ j'
            · go_wp2_with fail
              go_big_quiet (first | (go_at_call 68; refine Calls.quiet_of_same (less_u _ _ _)))
              go_wp2
              · have ht : ltInt (G a) (G j') = true := by assumption
                go_roundw
                case rel => exact ⟨j' - 1, n2 + nq, by go_num, by omega, by omega, HL2.out.more nq, Lib.hid ((scanDown_go (fun x => ltInt dk[a]! x) dk i' j' hle2 (by omega) (by rw [← HG.out, ← HG.out]; exact ht)).symm.trans hsd.out)⟩
                case measure => simp [intOf]; omega
              · have ht : ltInt (G a) (G j') = false := by assumption
                have hj2 := Lib.hid (show j' = scanDown (fun x => ltInt dk[a]! x) dk i' j from (scanDown_end (fun x => ltInt dk[a]! x) dk i' j' (.inr (by rw [← HG.out, ← HG.out]; exact ht))).symm.trans hsd.out)
                have hl3 := HL2.out.more nq
                clear hcw hsd ht HL2
                generalize wr.drewN nq = w3 at hl3 ⊢
                have hc3 := hl3.cells HH.out HG.out
                have hf3 := hl3.melts HH.out
                have HL3 := Lib.hid hl3
                clear hl3
                obtain ⟨v3, hy3⟩ := cell?_setCell_some (w := w3) (p := ⟨blk, off + i', none⟩) (x := .int .u64 (G j')) (q := ⟨blk, off + j', none⟩) (hc3 j' (by omega))
                have hlt3 := scans_lt ltInt a i j dk (by omega) hi2.out hj2.out hle2
                go_wp2
                go_region
                all_goals go_wp2
                all_goals go_roundw
                case rel =>
                  refine ⟨i' + 1, j' - 1, _, swp dk i' j', by go_num, by go_num, by omega, by omega, by omega, (show Lies w blk off d (n2 + nq + 1) (swp dk i' j') _ from ?_), ?_⟩
                  · have := HL3.out.swap 1 i' j' (by omega) (by omega)
                    rw [← HG.out, ← HG.out] at this
                    exact this
                  · rw [← HQ.out]; exact (partEq_go ltInt a i j dk hi2.out hj2.out (by omega)).symm
                case measure => simp [intOf]; omega
            · go_wp2_with fail
              go_big_quiet (first | (go_at_call 68; refine Calls.quiet_of_same (less_u _ _ _)))
              have hj2 := Lib.hid (show j' = scanDown (fun x => ltInt dk[a]! x) dk i' j from (scanDown_end (fun x => ltInt dk[a]! x) dk i' j' (.inl hle2)).symm.trans hsd.out)
              have hl3 := HL2.out.more nq
              clear hcw hsd HL2
              generalize wr.drewN nq = w3 at hl3 ⊢
              have hc3 := hl3.cells HH.out HG.out
              have hf3 := hl3.melts HH.out
              have HL3 := Lib.hid hl3
              clear hl3
              go_wp2
              go_ret
              have e := partEq_break ltInt a i j dk hi2.out hj2.out (by omega)
              refine ⟨?_, n2 + nq, ?_⟩
              · unfold Sort.partitionEqual; rw [← HQ.out, e]; rfl
              · unfold Sort.partitionEqual; rw [← HQ.out, e]; exact HL3.out

      · go_wp2_with fail
        go_big_quiet (first | (go_at_call 68; refine Calls.quiet_of_same (less_u _ _ _)))
        go_wp2
        have hi2 := Lib.hid (show i' = scanUp (fun x => !ltInt dk[a]! x) dk j i from (scanUp_end (fun x => !ltInt dk[a]! x) dk j i' (.inl hle)).symm.trans hsc.out)
        have hl0 := HL1.out.more nq
        clear hcw HL1 hsc
        go_loopw [10] (fun vj w2 => ∃ (j' n2 : Nat), vj = .int .i64 j' ∧ j' ≤ j ∧ i' ≤ j' + 1 ∧ Lies w blk off d n2 dk w2 ∧ Hid (scanDown (fun x => ltInt dk[a]! x) dk i' j' = scanDown (fun x => ltInt dk[a]! x) dk i' j)) (fun vj _ => (intOf vj).toNat)
        case atStart => exact ⟨j, _, rfl, Nat.le_refl _, hij', hl0, Lib.hid rfl⟩
        case round =>
          clear hl0
          obtain ⟨j', n2, rfl, hjj, hij2, hl2, hsd⟩ := hrel
          have hcw := hl2.cells HH.out HG.out
          have HL2 := Lib.hid hl2
          clear hl2
          by_cases hle2 : i' ≤ j'
          · exfalso; omega
          · go_wp2_with fail
            go_big_quiet (first | (go_at_call 68; refine Calls.quiet_of_same (less_u _ _ _)))
            have hj2 := Lib.hid (show j' = scanDown (fun x => ltInt dk[a]! x) dk i' j from (scanDown_end (fun x => ltInt dk[a]! x) dk i' j' (.inl hle2)).symm.trans hsd.out)
            have hl3 := HL2.out.more nq
            clear hcw hsd HL2
            generalize wr.drewN nq = w3 at hl3 ⊢
            have hc3 := hl3.cells HH.out HG.out
            have hf3 := hl3.melts HH.out
            have HL3 := Lib.hid hl3
            clear hl3
            go_wp2
            go_ret
            have e := partEq_break ltInt a i j dk hi2.out hj2.out (by omega)
            refine ⟨?_, n2 + nq, ?_⟩
            · unfold Sort.partitionEqual; rw [← HQ.out, e]; rfl
            · unfold Sort.partitionEqual; rw [← HQ.out, e]; exact HL3.out

set_option maxHeartbeats 12800000 in
set_option maxRecDepth 100000 in
theorem part_u (blk off cap len a b pivot : Nat) (d : Array Int) (w : World) (hlen : d.size = len) (hH : Holds encU w blk off d) (hap : a ≤ pivot) (hpb : pivot < b) (hb : b ≤ len) (hsz : len < 4611686018427387904) :
    Calls Try.prog 70 #[.slice (some ⟨blk, off, none⟩) len cap, .int .i64 a, .int .i64 b, .int .i64 pivot] w fun e w' =>
      e = .returned (.tuple #[.int .i64 (Sort.partition ltInt d a b pivot).1, .bool (Sort.partition ltInt d a b pivot).2.1]) ∧ ∃ n, Lies w blk off d n (Sort.partition ltInt d a b pivot).2.2 w' := by
  subst hlen
  have HH := Lib.hid hH
  have HL0 := Lib.hid (Lies.start hH)
  obtain ⟨G, hG, hcw, hfw⟩ := (Lies.start hH).fam hH
  have HG := Lib.hid hG
  clear hH hG
  have ca : w.cell? ⟨blk, off + a, none⟩ = some (.int .u64 (G a)) := hcw a (by omega)
  have cp : w.cell? ⟨blk, off + pivot, none⟩ = some (.int .u64 (G pivot)) := hcw pivot (by omega)
  have fa := hfw a (by omega)
  have fp := hfw pivot (by omega)
  obtain ⟨v', hy'⟩ := cell?_setCell_some (w := w) (p := ⟨blk, off + a, none⟩) (x := .int .u64 (G pivot)) (q := ⟨blk, off + pivot, none⟩) cp
  have hl1 : Lies w blk off d 1 (swp d a pivot) (((w.setCell ⟨blk, off + a, none⟩ (.int .u64 (G pivot))).setCell ⟨blk, off + pivot, none⟩ (.int .u64 (G a))).drew) := by
    have := HL0.out.swap 1 a pivot (by omega) (by omega)
    rw [← HG.out, ← HG.out] at this
    rw [show (1 : Nat) = 0 + 1 from rfl]; exact this
  have HL1 := Lib.hid hl1
  clear hcw hfw hl1
  go_enter Try.func70, Try.ntmps70
  go_wp2
  go_region
  go_wp2
  generalize ((w.setCell ⟨blk, off + a, none⟩ (.int .u64 (G pivot))).setCell ⟨blk, off + pivot, none⟩ (.int .u64 (G a))).drew = wr at HL1 ⊢
  have HL := HL1
  clear ca cp fa fp hy' v' HL1 HG
  obtain ⟨dk, hdk⟩ : ∃ dk, dk = swp d a pivot := ⟨_, rfl⟩
  rw [← hdk] at HL
  replace hdk := Lib.hid hdk
  obtain ⟨i, hi⟩ : ∃ i, i = a + 1 := ⟨_, rfl⟩
  obtain ⟨j, hj⟩ : ∃ j, j = b - 1 := ⟨_, rfl⟩
  rw [show ((a : Int) + 1) = (i : Int) by omega, show ((b : Int) - 1) = (j : Int) by omega]
  have hai : a < i := by omega
  have hij : i ≤ j + 1 := by omega
  have hjb : j < b := by omega
  have haj : a ≤ j := by omega
  replace hi := Lib.hid hi
  replace hj := Lib.hid hj
  obtain ⟨G, hG⟩ : ∃ G : Nat → Int, ∀ t, G t = dk[t]! := ⟨fun t => dk[t]!, fun _ => rfl⟩
  have HG := Lib.hid hG
  clear hG
  go_loopw [10] (fun vi w1 => ∃ (i' n1 : Nat), vi = .int .i64 i' ∧ i ≤ i' ∧ i' ≤ j + 1 ∧ Lies w blk off d n1 dk w1 ∧ Hid (scanUp (fun x => ltInt x dk[a]!) dk j i' = scanUp (fun x => ltInt x dk[a]!) dk j i)) (fun vi _ => j + 1 - (intOf vi).toNat)
  case atStart => exact ⟨i, _, rfl, Nat.le_refl _, hij, HL.out, Lib.hid rfl⟩
  case round =>
    obtain ⟨i', n1, rfl, hii, hij', hl1, hsc⟩ := hrel
    have hcw := hl1.cells HH.out HG.out
    have HL1 := Lib.hid hl1
    clear hl1
    by_cases hle : i' ≤ j
    · go_wp2_with fail
      go_big_quiet (first | (go_at_call 68; refine Calls.quiet_of_same (less_u _ _ _)))
      go_wp2
      · have ht : ltInt (G i') (G a) = true := by assumption
        go_roundw
        case rel => exact ⟨i' + 1, n1 + nq, by go_num, by omega, by omega, HL1.out.more nq, Lib.hid ((scanUp_go (fun x => ltInt x dk[a]!) dk j i' hle (by rw [← HG.out, ← HG.out]; exact ht)).symm.trans hsc.out)⟩
        case measure => simp [intOf]; omega
      · have ht : ltInt (G i') (G a) = false := by assumption
        have hi2 := Lib.hid (show i' = scanUp (fun x => ltInt x dk[a]!) dk j i from (scanUp_end (fun x => ltInt x dk[a]!) dk j i' (.inr (by rw [← HG.out, ← HG.out]; exact ht))).symm.trans hsc.out)
        clear ht
        have hl0 := HL1.out.more nq
        clear hcw HL1 hsc
        go_loopw [11] (fun vj w2 => ∃ (j' n2 : Nat), vj = .int .i64 j' ∧ j' ≤ j ∧ i' ≤ j' + 1 ∧ Lies w blk off d n2 dk w2 ∧ Hid (scanDown (fun x => !ltInt x dk[a]!) dk i' j' = scanDown (fun x => !ltInt x dk[a]!) dk i' j)) (fun vj _ => (intOf vj).toNat)
        case atStart => exact ⟨j, _, rfl, Nat.le_refl _, hij', hl0, Lib.hid rfl⟩
        case round =>
          clear hl0
          obtain ⟨j', n2, rfl, hjj, hij2, hl2, hsd⟩ := hrel
          have hcw := hl2.cells HH.out HG.out
          have HL2 := Lib.hid hl2
          clear hl2
          by_cases hle2 : i' ≤ j'
          · go_wp2_with fail
            go_big_quiet (first | (go_at_call 68; refine Calls.quiet_of_same (less_u _ _ _)))
            go_wp2
            · have ht : (!ltInt (G j') (G a)) = true := by assumption
              go_roundw
              case rel => exact ⟨j' - 1, n2 + nq, by go_num, by omega, by omega, HL2.out.more nq, Lib.hid ((scanDown_go (fun x => !ltInt x dk[a]!) dk i' j' hle2 (by omega) (by rw [← HG.out, ← HG.out]; exact ht)).symm.trans hsd.out)⟩
              case measure => simp [intOf]; omega
            · have ht : (!ltInt (G j') (G a)) = false := by assumption
              have hj2 := Lib.hid (show j' = scanDown (fun x => !ltInt x dk[a]!) dk i' j from (scanDown_end (fun x => !ltInt x dk[a]!) dk i' j' (.inr (by rw [← HG.out, ← HG.out]; exact ht))).symm.trans hsd.out)
              have hl3 := HL2.out.more nq
              clear hcw hsd ht HL2
              generalize wr.drewN nq = w3 at hl3 ⊢
              have hc3 := hl3.cells HH.out HG.out
              have hf3 := hl3.melts HH.out
              have HL3 := Lib.hid hl3
              clear hl3
              obtain ⟨v3, hy3⟩ := cell?_setCell_some (w := w3) (p := ⟨blk, off + i', none⟩) (x := .int .u64 (G j')) (q := ⟨blk, off + j', none⟩) (hc3 j' (by omega))
              have hlt3 := part_scans_lt ltInt a i j dk (by omega) hi2.out hj2.out hle2
              have HF := Lib.hid (part_first_go ltInt d a b pivot hi.out hj.out hdk.out hi2.out hj2.out (by omega))
              have hl5 := HL3.out.swap 1 i' j' (by omega) (by omega)
              rw [← HG.out, ← HG.out] at hl5
              have HL5 := Lib.hid hl5
              clear hl5
              obtain ⟨r2, hr2⟩ : ∃ r2, r2 = partLoop ltInt a (i' + 1) (j' - 1) (swp dk i' j') := ⟨_, rfl⟩
              rw [← hr2] at HF
              have HR2 := Lib.hid hr2
              clear hr2
              go_wp2
              go_region
              all_goals go_wp2
              go_loopw [10, 11] (fun vi vj wr => ∃ (i j n : Nat) (dk : Array Int), vi = .int .i64 i ∧ vj = .int .i64 j ∧ a < i ∧ i ≤ j + 1 ∧ a ≤ j ∧ j < b ∧ Lies w blk off d n dk wr ∧ partLoop ltInt a i j dk = r2) (fun vi vj _ => (intOf vj).toNat + 1 - (intOf vi).toNat)
              case atStart => exact ⟨i' + 1, j' - 1, _, swp dk i' j', by go_num, by go_num, by omega, by omega, by omega, by omega, HL5.out, HR2.out.symm⟩
              case round =>
                clear HL3 HL5 hc3 hf3 HR2 hi2 hj2 hi hj hdk HG hy3 v3 hle2 hlt3 hij hij' hij2 hii hjj hai hjb haj hle
                obtain ⟨i, j, n, dk, rfl, rfl, hai, hij, haj, hjb, hl, hq⟩ := hrel
                obtain ⟨G, hG⟩ : ∃ G : Nat → Int, ∀ t, G t = dk[t]! := ⟨fun t => dk[t]!, fun _ => rfl⟩
                have HG := Lib.hid hG
                have HL := Lib.hid hl
                have HQ := Lib.hid hq
                clear hG hl hq
                go_wp2
                go_loopw [10] (fun vi w1 => ∃ (i' n1 : Nat), vi = .int .i64 i' ∧ i ≤ i' ∧ i' ≤ j + 1 ∧ Lies w blk off d n1 dk w1 ∧ Hid (scanUp (fun x => ltInt x dk[a]!) dk j i' = scanUp (fun x => ltInt x dk[a]!) dk j i)) (fun vi _ => j + 1 - (intOf vi).toNat)
                case atStart => exact ⟨i, _, rfl, Nat.le_refl _, hij, HL.out, Lib.hid rfl⟩
                case round =>
                  obtain ⟨i', n1, rfl, hii, hij', hl1, hsc⟩ := hrel
                  have hcw := hl1.cells HH.out HG.out
                  have HL1 := Lib.hid hl1
                  clear hl1
                  by_cases hle : i' ≤ j
                  · go_wp2_with fail
                    go_big_quiet (first | (go_at_call 68; refine Calls.quiet_of_same (less_u _ _ _)))
                    go_wp2
                    · have ht : ltInt (G i') (G a) = true := by assumption
                      go_roundw
                      case rel => exact ⟨i' + 1, n1 + nq, by go_num, by omega, by omega, HL1.out.more nq, Lib.hid ((scanUp_go (fun x => ltInt x dk[a]!) dk j i' hle (by rw [← HG.out, ← HG.out]; exact ht)).symm.trans hsc.out)⟩
                      case measure => simp [intOf]; omega
                    · have ht : ltInt (G i') (G a) = false := by assumption
                      have hi2 := Lib.hid (show i' = scanUp (fun x => ltInt x dk[a]!) dk j i from (scanUp_end (fun x => ltInt x dk[a]!) dk j i' (.inr (by rw [← HG.out, ← HG.out]; exact ht))).symm.trans hsc.out)
                      clear ht
                      have hl0 := HL1.out.more nq
                      clear hcw HL1 hsc
                      go_loopw [11] (fun vj w2 => ∃ (j' n2 : Nat), vj = .int .i64 j' ∧ j' ≤ j ∧ i' ≤ j' + 1 ∧ Lies w blk off d n2 dk w2 ∧ Hid (scanDown (fun x => !ltInt x dk[a]!) dk i' j' = scanDown (fun x => !ltInt x dk[a]!) dk i' j)) (fun vj _ => (intOf vj).toNat)
                      case atStart => exact ⟨j, _, rfl, Nat.le_refl _, hij', hl0, Lib.hid rfl⟩
                      case round =>
                        clear hl0
                        obtain ⟨j', n2, rfl, hjj, hij2, hl2, hsd⟩ := hrel
                        have hcw := hl2.cells HH.out HG.out
                        have HL2 := Lib.hid hl2
                        clear hl2
                        by_cases hle2 : i' ≤ j'
                        · go_wp2_with fail
                          go_big_quiet (first | (go_at_call 68; refine Calls.quiet_of_same (less_u _ _ _)))
                          go_wp2
                          · have ht : (!ltInt (G j') (G a)) = true := by assumption
                            go_roundw
                            case rel => exact ⟨j' - 1, n2 + nq, by go_num, by omega, by omega, HL2.out.more nq, Lib.hid ((scanDown_go (fun x => !ltInt x dk[a]!) dk i' j' hle2 (by omega) (by rw [← HG.out, ← HG.out]; exact ht)).symm.trans hsd.out)⟩
                            case measure => simp [intOf]; omega
                          · have ht : (!ltInt (G j') (G a)) = false := by assumption
                            have hj2 := Lib.hid (show j' = scanDown (fun x => !ltInt x dk[a]!) dk i' j from (scanDown_end (fun x => !ltInt x dk[a]!) dk i' j' (.inr (by rw [← HG.out, ← HG.out]; exact ht))).symm.trans hsd.out)
                            have hl3 := HL2.out.more nq
                            clear hcw hsd ht HL2
                            generalize wr.drewN nq = w3 at hl3 ⊢
                            have hc3 := hl3.cells HH.out HG.out
                            have hf3 := hl3.melts HH.out
                            have HL3 := Lib.hid hl3
                            clear hl3
                            obtain ⟨v3, hy3⟩ := cell?_setCell_some (w := w3) (p := ⟨blk, off + i', none⟩) (x := .int .u64 (G j')) (q := ⟨blk, off + j', none⟩) (hc3 j' (by omega))
                            have hlt3 := part_scans_lt ltInt a i j dk (by omega) hi2.out hj2.out hle2
                            go_wp2
                            go_region
                            all_goals go_wp2
                            all_goals go_roundw
                            case rel =>
                              refine ⟨i' + 1, j' - 1, _, swp dk i' j', by go_num, by go_num, by omega, by omega, by omega, by omega, (show Lies w blk off d (n2 + nq + 1) (swp dk i' j') _ from ?_), ?_⟩
                              · have := HL3.out.swap 1 i' j' (by omega) (by omega)
                                rw [← HG.out, ← HG.out] at this
                                exact this
                              · rw [← HQ.out]; exact (part_go ltInt a i j dk hi2.out hj2.out (by omega)).symm
                            case measure => simp [intOf]; omega
                        · go_wp2_with fail
                          go_big_quiet (first | (go_at_call 68; refine Calls.quiet_of_same (less_u _ _ _)))
                          have hj2 := Lib.hid (show j' = scanDown (fun x => !ltInt x dk[a]!) dk i' j from (scanDown_end (fun x => !ltInt x dk[a]!) dk i' j' (.inl hle2)).symm.trans hsd.out)
                          have hl3 := HL2.out.more nq
                          clear hcw hsd HL2
                          generalize wr.drewN nq = w3 at hl3 ⊢
                          have hc3 := hl3.cells HH.out HG.out
                          have hf3 := hl3.melts HH.out
                          have HL3 := Lib.hid hl3
                          clear hl3
                          have cja := hc3 j' (by omega)
                          have caa := hc3 a (by omega)
                          have fja := hf3 j' (by omega)
                          have faa := hf3 a (by omega)
                          obtain ⟨v4, hy4⟩ := cell?_setCell_some (w := w3) (p := ⟨blk, off + j', none⟩) (x := .int .u64 (G a)) (q := ⟨blk, off + a, none⟩) caa
                          have hl4 := HL3.out.swap 1 j' a (by omega) (by omega)
                          rw [← HG.out, ← HG.out] at hl4
                          have HL4 := Lib.hid hl4
                          clear hl4 hc3 hf3
                          go_wp2
                          go_region
                          all_goals go_wp2
                          (try simp only [Exit.inBlock, Exit.then]); refine bodyPost_ret (results_tmp2 rfl _ _ _) rfl ?_
                          have e := part_break ltInt a i j dk hi2.out hj2.out (by omega)
                          rw [HF.out, ← HQ.out, e]
                          exact ⟨rfl, _, HL4.out⟩

                  · go_wp2_with fail
                    go_big_quiet (first | (go_at_call 68; refine Calls.quiet_of_same (less_u _ _ _)))
                    go_wp2
                    have hi2 := Lib.hid (show i' = scanUp (fun x => ltInt x dk[a]!) dk j i from (scanUp_end (fun x => ltInt x dk[a]!) dk j i' (.inl hle)).symm.trans hsc.out)
                    have hl0 := HL1.out.more nq
                    clear hcw HL1 hsc
                    go_loopw [11] (fun vj w2 => ∃ (j' n2 : Nat), vj = .int .i64 j' ∧ j' ≤ j ∧ i' ≤ j' + 1 ∧ Lies w blk off d n2 dk w2 ∧ Hid (scanDown (fun x => !ltInt x dk[a]!) dk i' j' = scanDown (fun x => !ltInt x dk[a]!) dk i' j)) (fun vj _ => (intOf vj).toNat)
                    case atStart => exact ⟨j, _, rfl, Nat.le_refl _, hij', hl0, Lib.hid rfl⟩
                    case round =>
                      clear hl0
                      obtain ⟨j', n2, rfl, hjj, hij2, hl2, hsd⟩ := hrel
                      have hcw := hl2.cells HH.out HG.out
                      have HL2 := Lib.hid hl2
                      clear hl2
                      by_cases hle2 : i' ≤ j'
                      · exfalso; omega
                      · go_wp2_with fail
                        go_big_quiet (first | (go_at_call 68; refine Calls.quiet_of_same (less_u _ _ _)))
                        have hj2 := Lib.hid (show j' = scanDown (fun x => !ltInt x dk[a]!) dk i' j from (scanDown_end (fun x => !ltInt x dk[a]!) dk i' j' (.inl hle2)).symm.trans hsd.out)
                        have hl3 := HL2.out.more nq
                        clear hcw hsd HL2
                        generalize wr.drewN nq = w3 at hl3 ⊢
                        have hc3 := hl3.cells HH.out HG.out
                        have hf3 := hl3.melts HH.out
                        have HL3 := Lib.hid hl3
                        clear hl3
                        have cja := hc3 j' (by omega)
                        have caa := hc3 a (by omega)
                        have fja := hf3 j' (by omega)
                        have faa := hf3 a (by omega)
                        obtain ⟨v4, hy4⟩ := cell?_setCell_some (w := w3) (p := ⟨blk, off + j', none⟩) (x := .int .u64 (G a)) (q := ⟨blk, off + a, none⟩) caa
                        have hl4 := HL3.out.swap 1 j' a (by omega) (by omega)
                        rw [← HG.out, ← HG.out] at hl4
                        have HL4 := Lib.hid hl4
                        clear hl4 hc3 hf3
                        go_wp2
                        go_region
                        all_goals go_wp2
                        (try simp only [Exit.inBlock, Exit.then]); refine bodyPost_ret (results_tmp2 rfl _ _ _) rfl ?_
                        have e := part_break ltInt a i j dk hi2.out hj2.out (by omega)
                        rw [HF.out, ← HQ.out, e]
                        exact ⟨rfl, _, HL4.out⟩

          · go_wp2_with fail
            go_big_quiet (first | (go_at_call 68; refine Calls.quiet_of_same (less_u _ _ _)))
            have hj2 := Lib.hid (show j' = scanDown (fun x => !ltInt x dk[a]!) dk i' j from (scanDown_end (fun x => !ltInt x dk[a]!) dk i' j' (.inl hle2)).symm.trans hsd.out)
            have hl3 := HL2.out.more nq
            clear hcw hsd HL2
            generalize wr.drewN nq = w3 at hl3 ⊢
            have hc3 := hl3.cells HH.out HG.out
            have hf3 := hl3.melts HH.out
            have HL3 := Lib.hid hl3
            clear hl3
            have cja := hc3 j' (by omega)
            have caa := hc3 a (by omega)
            have fja := hf3 j' (by omega)
            have faa := hf3 a (by omega)
            obtain ⟨v4, hy4⟩ := cell?_setCell_some (w := w3) (p := ⟨blk, off + j', none⟩) (x := .int .u64 (G a)) (q := ⟨blk, off + a, none⟩) caa
            have hl4 := HL3.out.swap 1 j' a (by omega) (by omega)
            rw [← HG.out, ← HG.out] at hl4
            have HL4 := Lib.hid hl4
            clear hl4 hc3 hf3
            go_wp2
            go_region
            all_goals go_wp2
            (try simp only [Exit.inBlock, Exit.then]); refine bodyPost_ret (results_tmp2 rfl _ _ _) rfl ?_
            have e := part_first_break ltInt d a b pivot hi.out hj.out hdk.out hi2.out hj2.out (by omega)
            exact ⟨by rw [e]; rfl, _, by rw [e]; exact HL4.out⟩

    · go_wp2_with fail
      go_big_quiet (first | (go_at_call 68; refine Calls.quiet_of_same (less_u _ _ _)))
      go_wp2
      have hi2 := Lib.hid (show i' = scanUp (fun x => ltInt x dk[a]!) dk j i from (scanUp_end (fun x => ltInt x dk[a]!) dk j i' (.inl hle)).symm.trans hsc.out)
      have hl0 := HL1.out.more nq
      clear hcw HL1 hsc
      go_loopw [11] (fun vj w2 => ∃ (j' n2 : Nat), vj = .int .i64 j' ∧ j' ≤ j ∧ i' ≤ j' + 1 ∧ Lies w blk off d n2 dk w2 ∧ Hid (scanDown (fun x => !ltInt x dk[a]!) dk i' j' = scanDown (fun x => !ltInt x dk[a]!) dk i' j)) (fun vj _ => (intOf vj).toNat)
      case atStart => exact ⟨j, _, rfl, Nat.le_refl _, hij', hl0, Lib.hid rfl⟩
      case round =>
        clear hl0
        obtain ⟨j', n2, rfl, hjj, hij2, hl2, hsd⟩ := hrel
        have hcw := hl2.cells HH.out HG.out
        have HL2 := Lib.hid hl2
        clear hl2
        by_cases hle2 : i' ≤ j'
        · exfalso; omega
        · go_wp2_with fail
          go_big_quiet (first | (go_at_call 68; refine Calls.quiet_of_same (less_u _ _ _)))
          have hj2 := Lib.hid (show j' = scanDown (fun x => !ltInt x dk[a]!) dk i' j from (scanDown_end (fun x => !ltInt x dk[a]!) dk i' j' (.inl hle2)).symm.trans hsd.out)
          have hl3 := HL2.out.more nq
          clear hcw hsd HL2
          generalize wr.drewN nq = w3 at hl3 ⊢
          have hc3 := hl3.cells HH.out HG.out
          have hf3 := hl3.melts HH.out
          have HL3 := Lib.hid hl3
          clear hl3
          have cja := hc3 j' (by omega)
          have caa := hc3 a (by omega)
          have fja := hf3 j' (by omega)
          have faa := hf3 a (by omega)
          obtain ⟨v4, hy4⟩ := cell?_setCell_some (w := w3) (p := ⟨blk, off + j', none⟩) (x := .int .u64 (G a)) (q := ⟨blk, off + a, none⟩) caa
          have hl4 := HL3.out.swap 1 j' a (by omega) (by omega)
          rw [← HG.out, ← HG.out] at hl4
          have HL4 := Lib.hid hl4
          clear hl4 hc3 hf3
          go_wp2
          go_region
          all_goals go_wp2
          (try simp only [Exit.inBlock, Exit.then]); refine bodyPost_ret (results_tmp2 rfl _ _ _) rfl ?_
          have e := part_first_break ltInt d a b pivot hi.out hj.out hdk.out hi2.out hj2.out (by omega)
          exact ⟨by rw [e]; rfl, _, by rw [e]; exact HL4.out⟩

end Go.Proofs.Ytjpbniajhkindaa

namespace Go.Proofs.Ytjpbniajhkindaa
open Go.RowKit Go.Sort

set_option maxHeartbeats 12800000 in
set_option maxRecDepth 100000 in
theorem partial_u (blk off cap len a b : Nat) (d : Array Int) (w : World) (hlen : d.size = len) (hH : Holds encU w blk off d) (hab : a < b) (hb : b ≤ len) (hsz : len < 4611686018427387904) :
    Calls Try.prog 67 #[.slice (some ⟨blk, off, none⟩) len cap, .int .i64 a, .int .i64 b] w fun e w' =>
      e = .returned (.bool (partialInsertionSort ltInt d a b).2) ∧ ∃ n, Lies w blk off d n (partialInsertionSort ltInt d a b).1 w' := by
  subst hlen
  have HH := Lib.hid hH
  have HL0 := Lib.hid (Lies.start hH)
  clear hH
  go_enter Try.func67, Try.ntmps67
  go_wp2
  go_loopw [7, 8] (fun vi vs wr => ∃ (i s n : Nat) (dk : Array Int), vi = .int .i64 i ∧ vs = .int .i64 s ∧ a < i ∧ i ≤ b ∧ s ≤ 5 ∧ Lies w blk off d n dk wr ∧ partialIns ltInt a b (5 - s) i dk = partialInsertionSort ltInt d a b) (fun _ vs _ => 5 - (intOf vs).toNat)
  case atStart => exact ⟨a + 1, 0, 0, d, by go_num, rfl, by omega, by omega, by omega, HL0.out, rfl⟩
  case round =>
    obtain ⟨i, s, n, dk, rfl, rfl, hai, hib, hs5, hl, hq⟩ := hrel
    obtain ⟨G, hG⟩ : ∃ G : Nat → Int, ∀ t, G t = dk[t]! := ⟨fun t => dk[t]!, fun _ => rfl⟩
    have HG := Lib.hid hG
    have HL := Lib.hid hl
    have HQ := Lib.hid hq
    clear hG hl hq
    by_cases hs : s < 5
    · go_wp2
      go_loopw [7] (fun vi w1 => ∃ (i' n1 : Nat), vi = .int .i64 i' ∧ i ≤ i' ∧ i' ≤ b ∧ Lies w blk off d n1 dk w1 ∧ Hid (scanSorted ltInt dk b i' = scanSorted ltInt dk b i)) (fun vi _ => b - (intOf vi).toNat)
      case atStart => exact ⟨i, _, rfl, Nat.le_refl _, hib, HL.out, Lib.hid rfl⟩
      case round =>
        obtain ⟨i', n1, rfl, hii, hib', hl1, hsc⟩ := hrel
        have hcw := hl1.cells HH.out HG.out
        have HL1 := Lib.hid hl1
        clear hl1
        by_cases hle : i' < b
        · have hne : ((i' : Int) == (b : Int)) = false := by simp; omega
          by_cases h50 : b - a < 50
          · have h50z : decide ((b : Int) - (a : Int) < 50) = true := decide_eq_true (by omega)
            go_wp2_with fail
            go_big_quiet (first | (go_at_call 68; refine Calls.quiet_of_same (less_u _ _ _)))
            go_wp2
            · have ht : (!ltInt (G i') (G (i' - 1))) = true := by assumption
              go_roundw
              case rel => exact ⟨i' + 1, n1 + nq, by go_num, by omega, by omega, HL1.out.more nq, Lib.hid ((scanSorted_go ltInt dk b i' hle (by rw [← HG.out, ← HG.out]; simpa using ht)).symm.trans hsc.out)⟩
              case measure => simp [intOf]; omega
            · have ht : (!ltInt (G i') (G (i' - 1))) = false := by assumption
              have hi2 := Lib.hid (show scanSorted ltInt dk b i = i' from hsc.out.symm.trans (scanSorted_stop ltInt dk b i' (.inr (by rw [← HG.out, ← HG.out]; simpa using ht))))
              go_ret
              have e := pi_short ltInt a b s i dk hs (by rw [hi2.out]; omega) h50
              exact ⟨by rw [← HQ.out, e]; rfl, _, by rw [← HQ.out, e]; exact HL1.out.more nq⟩
          · have h50z : decide ((b : Int) - (a : Int) < 50) = false := decide_eq_false (by omega)
            go_wp2_with fail
            go_big_quiet (first | (go_at_call 68; refine Calls.quiet_of_same (less_u _ _ _)))
            go_wp2
            · have ht : (!ltInt (G i') (G (i' - 1))) = true := by assumption
              go_roundw
              case rel => exact ⟨i' + 1, n1 + nq, by go_num, by omega, by omega, HL1.out.more nq, Lib.hid ((scanSorted_go ltInt dk b i' hle (by rw [← HG.out, ← HG.out]; simpa using ht)).symm.trans hsc.out)⟩
              case measure => simp [intOf]; omega
            · have ht : (!ltInt (G i') (G (i' - 1))) = false := by assumption
              have hi2 := Lib.hid (show scanSorted ltInt dk b i = i' from hsc.out.symm.trans (scanSorted_stop ltInt dk b i' (.inr (by rw [← HG.out, ← HG.out]; simpa using ht))))
              have hl2 := HL1.out.more nq
              clear hcw HL1 hsc ht
              generalize wr.drewN nq = w2 at hl2 ⊢
              have HN := Lib.hid (pi_go ltInt a b s i i' dk hs hi2.out (by omega) h50)
              have hc2 := hl2.cells HH.out HG.out
              have hf2 := hl2.melts HH.out
              have hl3 := hl2.swap 1 i' (i' - 1) (by omega) (by omega)
              rw [← HG.out, ← HG.out] at hl3
              have HL3 := Lib.hid hl3
              clear hl3 hi2 hl2
              by_cases hu : b - i' ≥ 2
              · have huz : (2 : Int) ≤ (b : Int) - (i' : Int) := by omega
                by_cases hdn : i' - a ≥ 2
                · have hdz : (2 : Int) ≤ (i' : Int) - (a : Int) := by omega
                  go_region
                  all_goals go_wp2
                  go_loopw [9] (fun vj w4 => ∃ (j n4 : Nat) (dj : Array Int), vj = .int .i64 j ∧ j < i' ∧ Lies w blk off d n4 dj w4 ∧ Hid (shiftDown ltInt j dj = shiftDown ltInt (i' - 1) (swp dk i' (i' - 1)))) (fun vj _ => (intOf vj).toNat)
                  case atStart => exact ⟨i' - 1, _, swp dk i' (i' - 1), by go_num, by omega, HL3.out, Lib.hid rfl⟩
                  case round =>
                    clear HL3 hc2 hf2
                    obtain ⟨j, n4, dj, rfl, hji, hl4, hsd⟩ := hrel
                    obtain ⟨G4, hG4⟩ : ∃ G : Nat → Int, ∀ t, G t = dj[t]! := ⟨fun t => dj[t]!, fun _ => rfl⟩
                    have HG4 := Lib.hid hG4
                    have hcw := hl4.cells HH.out hG4
                    have hfw := hl4.melts HH.out
                    have HL4 := Lib.hid hl4
                    clear hl4 hG4
                    by_cases hj1 : 1 ≤ j
                    · go_wp2
                      go_big_quiet (first | (go_at_call 68; refine Calls.quiet_of_same (less_u _ _ _)))
                      go_wp2
                      · have ht : (!ltInt (G4 j) (G4 (j - 1))) = true := by assumption
                        obtain ⟨dD, hdD⟩ : ∃ dD, dD = dj := ⟨_, rfl⟩
                        rw [← hdD] at HL4
                        have HFD := Lib.hid (show dD = fixDown ltInt a i' (swp dk i' (i' - 1)) by rw [hdD, fixDown, if_pos hdn, ← hsd.out, shiftDown_stop ltInt j dj (.inr (by rw [← HG4.out, ← HG4.out]; simpa using ht))])
                        have HLD := Lib.hid (HL4.out.more nq)
                        clear hcw hfw HL4 hsd ht hdD
                        generalize wr.drewN nq = wD at HLD ⊢
                        go_loopw [10] (fun vj w5 => ∃ (j n5 : Nat) (dj : Array Int), vj = .int .i64 j ∧ i' < j ∧ j ≤ b ∧ Lies w blk off d n5 dj w5 ∧ Hid (shiftUp ltInt b j dj = shiftUp ltInt b (i' + 1) dD)) (fun vj _ => b - (intOf vj).toNat)
                        case atStart => exact ⟨i' + 1, _, dD, by go_num, by omega, by omega, HLD.out, Lib.hid rfl⟩
                        case round =>
                          obtain ⟨j, n5, dj, rfl, hij, hjb, hl5, hsu⟩ := hrel
                          obtain ⟨G5, hG5⟩ : ∃ G : Nat → Int, ∀ t, G t = dj[t]! := ⟨fun t => dj[t]!, fun _ => rfl⟩
                          have HG5 := Lib.hid hG5
                          have hcw := hl5.cells HH.out hG5
                          have hfw := hl5.melts HH.out
                          have HL5 := Lib.hid hl5
                          clear hl5 hG5
                          by_cases hjl : j < b
                          · go_wp2
                            go_big_quiet (first | (go_at_call 68; refine Calls.quiet_of_same (less_u _ _ _)))
                            go_wp2
                            · have ht : (!ltInt (G5 j) (G5 (j - 1))) = true := by assumption
                              have HFU := Lib.hid (show dj = fixUp ltInt b i' dD by rw [fixUp, if_pos hu, ← hsu.out, shiftUp_stop ltInt b j dj (.inr (by rw [← HG5.out, ← HG5.out]; simpa using ht))])
                              have HLU := Lib.hid (HL5.out.more nq)
                              clear hcw hfw HL5 hsu ht
                              go_roundw
                              case rel => exact ⟨i', s + 1, _, _, by go_num, by go_num, by omega, by omega, by omega, HLU.out, by rw [← HQ.out, HN.out, ← HFD.out, ← HFU.out]⟩
                              case measure => simp [intOf]; omega
                            · have ht : (!ltInt (G5 j) (G5 (j - 1))) = false := by assumption
                              have hl6 := HL5.out.more nq
                              clear hcw hfw HL5
                              generalize wr.drewN nq = w6 at hl6 ⊢
                              have hc6 := hl6.cells HH.out HG5.out
                              have hf6 := hl6.melts HH.out
                              have hl7 := hl6.swap 1 j (j - 1) (by omega) (by omega)
                              rw [← HG5.out, ← HG5.out] at hl7
                              have HL7 := Lib.hid hl7
                              clear hl6 hl7
                              go_region
                              all_goals go_wp2
                              go_roundw
                              case rel => exact ⟨j + 1, _, swp dj j (j - 1), by go_num, by omega, by omega, HL7.out, Lib.hid ((shiftUp_go ltInt b j dj hjl (by rw [← HG5.out, ← HG5.out]; simpa using ht)).symm.trans hsu.out)⟩
                              case measure => simp [intOf]; omega
                          · have HFU := Lib.hid (show dj = fixUp ltInt b i' dD by rw [fixUp, if_pos hu, ← hsu.out, shiftUp_stop ltInt b j dj (.inl hjl)])
                            have HLU := HL5
                            clear hcw hfw HL5 hsu
                            go_wp2
                            go_roundw
                            case rel => exact ⟨i', s + 1, _, _, by go_num, by go_num, by omega, by omega, by omega, HLU.out, by rw [← HQ.out, HN.out, ← HFD.out, ← HFU.out]⟩
                            case measure => simp [intOf]; omega
                      · have ht : (!ltInt (G4 j) (G4 (j - 1))) = false := by assumption
                        have hl6 := HL4.out.more nq
                        clear hcw hfw HL4
                        generalize wr.drewN nq = w6 at hl6 ⊢
                        have hc6 := hl6.cells HH.out HG4.out
                        have hf6 := hl6.melts HH.out
                        have hl7 := hl6.swap 1 j (j - 1) (by omega) (by omega)
                        rw [← HG4.out, ← HG4.out] at hl7
                        have HL7 := Lib.hid hl7
                        clear hl6 hl7
                        go_region
                        all_goals go_wp2
                        go_roundw
                        case rel => exact ⟨j - 1, _, swp dj j (j - 1), by go_num, by omega, HL7.out, Lib.hid ((shiftDown_go ltInt j dj hj1 (by rw [← HG4.out, ← HG4.out]; simpa using ht)).symm.trans hsd.out)⟩
                        case measure => simp [intOf]; omega
                    · obtain ⟨dD, hdD⟩ : ∃ dD, dD = dj := ⟨_, rfl⟩
                      rw [← hdD] at HL4
                      have HFD := Lib.hid (show dD = fixDown ltInt a i' (swp dk i' (i' - 1)) by rw [hdD, fixDown, if_pos hdn, ← hsd.out, shiftDown_stop ltInt j dj (.inl (by omega))])
                      have HLD := HL4
                      clear hcw hfw HL4 hsd hdD
                      go_wp2
                      go_loopw [10] (fun vj w5 => ∃ (j n5 : Nat) (dj : Array Int), vj = .int .i64 j ∧ i' < j ∧ j ≤ b ∧ Lies w blk off d n5 dj w5 ∧ Hid (shiftUp ltInt b j dj = shiftUp ltInt b (i' + 1) dD)) (fun vj _ => b - (intOf vj).toNat)
                      case atStart => exact ⟨i' + 1, _, dD, by go_num, by omega, by omega, HLD.out, Lib.hid rfl⟩
                      case round =>
                        obtain ⟨j, n5, dj, rfl, hij, hjb, hl5, hsu⟩ := hrel
                        obtain ⟨G5, hG5⟩ : ∃ G : Nat → Int, ∀ t, G t = dj[t]! := ⟨fun t => dj[t]!, fun _ => rfl⟩
                        have HG5 := Lib.hid hG5
                        have hcw := hl5.cells HH.out hG5
                        have hfw := hl5.melts HH.out
                        have HL5 := Lib.hid hl5
                        clear hl5 hG5
                        by_cases hjl : j < b
                        · go_wp2
                          go_big_quiet (first | (go_at_call 68; refine Calls.quiet_of_same (less_u _ _ _)))
                          go_wp2
                          · have ht : (!ltInt (G5 j) (G5 (j - 1))) = true := by assumption
                            have HFU := Lib.hid (show dj = fixUp ltInt b i' dD by rw [fixUp, if_pos hu, ← hsu.out, shiftUp_stop ltInt b j dj (.inr (by rw [← HG5.out, ← HG5.out]; simpa using ht))])
                            have HLU := Lib.hid (HL5.out.more nq)
                            clear hcw hfw HL5 hsu ht
                            go_roundw
                            case rel => exact ⟨i', s + 1, _, _, by go_num, by go_num, by omega, by omega, by omega, HLU.out, by rw [← HQ.out, HN.out, ← HFD.out, ← HFU.out]⟩
                            case measure => simp [intOf]; omega
                          · have ht : (!ltInt (G5 j) (G5 (j - 1))) = false := by assumption
                            have hl6 := HL5.out.more nq
                            clear hcw hfw HL5
                            generalize wr.drewN nq = w6 at hl6 ⊢
                            have hc6 := hl6.cells HH.out HG5.out
                            have hf6 := hl6.melts HH.out
                            have hl7 := hl6.swap 1 j (j - 1) (by omega) (by omega)
                            rw [← HG5.out, ← HG5.out] at hl7
                            have HL7 := Lib.hid hl7
                            clear hl6 hl7
                            go_region
                            all_goals go_wp2
                            go_roundw
                            case rel => exact ⟨j + 1, _, swp dj j (j - 1), by go_num, by omega, by omega, HL7.out, Lib.hid ((shiftUp_go ltInt b j dj hjl (by rw [← HG5.out, ← HG5.out]; simpa using ht)).symm.trans hsu.out)⟩
                            case measure => simp [intOf]; omega
                        · have HFU := Lib.hid (show dj = fixUp ltInt b i' dD by rw [fixUp, if_pos hu, ← hsu.out, shiftUp_stop ltInt b j dj (.inl hjl)])
                          have HLU := HL5
                          clear hcw hfw HL5 hsu
                          go_wp2
                          go_roundw
                          case rel => exact ⟨i', s + 1, _, _, by go_num, by go_num, by omega, by omega, by omega, HLU.out, by rw [← HQ.out, HN.out, ← HFD.out, ← HFU.out]⟩
                          case measure => simp [intOf]; omega
                · obtain ⟨dD, hdD⟩ : ∃ dD, dD = swp dk i' (i' - 1) := ⟨_, rfl⟩
                  have HFD := Lib.hid (show dD = fixDown ltInt a i' (swp dk i' (i' - 1)) by rw [hdD, fixDown, if_neg hdn])
                  have hld := HL3.out
                  rw [← hdD] at hld
                  have HLD := Lib.hid hld
                  clear hld
                  clear HL3 hdD
                  have HDN := Lib.hid hdn
                  clear hdn
                  go_region
                  have hdn := HDN.out
                  have hdz : ¬ ((2 : Int) ≤ (i' : Int) - (a : Int)) := by omega
                  all_goals go_wp2
                  go_loopw [10] (fun vj w5 => ∃ (j n5 : Nat) (dj : Array Int), vj = .int .i64 j ∧ i' < j ∧ j ≤ b ∧ Lies w blk off d n5 dj w5 ∧ Hid (shiftUp ltInt b j dj = shiftUp ltInt b (i' + 1) dD)) (fun vj _ => b - (intOf vj).toNat)
                  case atStart => exact ⟨i' + 1, _, dD, by go_num, by omega, by omega, HLD.out, Lib.hid rfl⟩
                  case round =>
                    obtain ⟨j, n5, dj, rfl, hij, hjb, hl5, hsu⟩ := hrel
                    obtain ⟨G5, hG5⟩ : ∃ G : Nat → Int, ∀ t, G t = dj[t]! := ⟨fun t => dj[t]!, fun _ => rfl⟩
                    have HG5 := Lib.hid hG5
                    have hcw := hl5.cells HH.out hG5
                    have hfw := hl5.melts HH.out
                    have HL5 := Lib.hid hl5
                    clear hl5 hG5
                    by_cases hjl : j < b
                    · go_wp2
                      go_big_quiet (first | (go_at_call 68; refine Calls.quiet_of_same (less_u _ _ _)))
                      go_wp2
                      · have ht : (!ltInt (G5 j) (G5 (j - 1))) = true := by assumption
                        have HFU := Lib.hid (show dj = fixUp ltInt b i' dD by rw [fixUp, if_pos hu, ← hsu.out, shiftUp_stop ltInt b j dj (.inr (by rw [← HG5.out, ← HG5.out]; simpa using ht))])
                        have HLU := Lib.hid (HL5.out.more nq)
                        clear hcw hfw HL5 hsu ht
                        go_roundw
                        case rel => exact ⟨i', s + 1, _, _, by go_num, by go_num, by omega, by omega, by omega, HLU.out, by rw [← HQ.out, HN.out, ← HFD.out, ← HFU.out]⟩
                        case measure => simp [intOf]; omega
                      · have ht : (!ltInt (G5 j) (G5 (j - 1))) = false := by assumption
                        have hl6 := HL5.out.more nq
                        clear hcw hfw HL5
                        generalize wr.drewN nq = w6 at hl6 ⊢
                        have hc6 := hl6.cells HH.out HG5.out
                        have hf6 := hl6.melts HH.out
                        have hl7 := hl6.swap 1 j (j - 1) (by omega) (by omega)
                        rw [← HG5.out, ← HG5.out] at hl7
                        have HL7 := Lib.hid hl7
                        clear hl6 hl7
                        go_region
                        all_goals go_wp2
                        go_roundw
                        case rel => exact ⟨j + 1, _, swp dj j (j - 1), by go_num, by omega, by omega, HL7.out, Lib.hid ((shiftUp_go ltInt b j dj hjl (by rw [← HG5.out, ← HG5.out]; simpa using ht)).symm.trans hsu.out)⟩
                        case measure => simp [intOf]; omega
                    · have HFU := Lib.hid (show dj = fixUp ltInt b i' dD by rw [fixUp, if_pos hu, ← hsu.out, shiftUp_stop ltInt b j dj (.inl hjl)])
                      have HLU := HL5
                      clear hcw hfw HL5 hsu
                      go_wp2
                      go_roundw
                      case rel => exact ⟨i', s + 1, _, _, by go_num, by go_num, by omega, by omega, by omega, HLU.out, by rw [← HQ.out, HN.out, ← HFD.out, ← HFU.out]⟩
                      case measure => simp [intOf]; omega
              · have huz : ¬ ((2 : Int) ≤ (b : Int) - (i' : Int)) := by omega
                by_cases hdn : i' - a ≥ 2
                · have hdz : (2 : Int) ≤ (i' : Int) - (a : Int) := by omega
                  go_region
                  all_goals go_wp2
                  go_loopw [9] (fun vj w4 => ∃ (j n4 : Nat) (dj : Array Int), vj = .int .i64 j ∧ j < i' ∧ Lies w blk off d n4 dj w4 ∧ Hid (shiftDown ltInt j dj = shiftDown ltInt (i' - 1) (swp dk i' (i' - 1)))) (fun vj _ => (intOf vj).toNat)
                  case atStart => exact ⟨i' - 1, _, swp dk i' (i' - 1), by go_num, by omega, HL3.out, Lib.hid rfl⟩
                  case round =>
                    clear HL3 hc2 hf2
                    obtain ⟨j, n4, dj, rfl, hji, hl4, hsd⟩ := hrel
                    obtain ⟨G4, hG4⟩ : ∃ G : Nat → Int, ∀ t, G t = dj[t]! := ⟨fun t => dj[t]!, fun _ => rfl⟩
                    have HG4 := Lib.hid hG4
                    have hcw := hl4.cells HH.out hG4
                    have hfw := hl4.melts HH.out
                    have HL4 := Lib.hid hl4
                    clear hl4 hG4
                    by_cases hj1 : 1 ≤ j
                    · go_wp2
                      go_big_quiet (first | (go_at_call 68; refine Calls.quiet_of_same (less_u _ _ _)))
                      go_wp2
                      · have ht : (!ltInt (G4 j) (G4 (j - 1))) = true := by assumption
                        obtain ⟨dD, hdD⟩ : ∃ dD, dD = dj := ⟨_, rfl⟩
                        rw [← hdD] at HL4
                        have HFD := Lib.hid (show dD = fixDown ltInt a i' (swp dk i' (i' - 1)) by rw [hdD, fixDown, if_pos hdn, ← hsd.out, shiftDown_stop ltInt j dj (.inr (by rw [← HG4.out, ← HG4.out]; simpa using ht))])
                        have HLD := Lib.hid (HL4.out.more nq)
                        clear hcw hfw HL4 hsd ht hdD
                        generalize wr.drewN nq = wD at HLD ⊢
                        have HFU := Lib.hid (show dD = fixUp ltInt b i' dD by rw [fixUp, if_neg hu])
                        have HLU := HLD
                        go_roundw
                        case rel => exact ⟨i', s + 1, _, _, by go_num, by go_num, by omega, by omega, by omega, HLU.out, by rw [← HQ.out, HN.out, ← HFD.out, ← HFU.out]⟩
                        case measure => simp [intOf]; omega
                      · have ht : (!ltInt (G4 j) (G4 (j - 1))) = false := by assumption
                        have hl6 := HL4.out.more nq
                        clear hcw hfw HL4
                        generalize wr.drewN nq = w6 at hl6 ⊢
                        have hc6 := hl6.cells HH.out HG4.out
                        have hf6 := hl6.melts HH.out
                        have hl7 := hl6.swap 1 j (j - 1) (by omega) (by omega)
                        rw [← HG4.out, ← HG4.out] at hl7
                        have HL7 := Lib.hid hl7
                        clear hl6 hl7
                        go_region
                        all_goals go_wp2
                        go_roundw
                        case rel => exact ⟨j - 1, _, swp dj j (j - 1), by go_num, by omega, HL7.out, Lib.hid ((shiftDown_go ltInt j dj hj1 (by rw [← HG4.out, ← HG4.out]; simpa using ht)).symm.trans hsd.out)⟩
                        case measure => simp [intOf]; omega
                    · obtain ⟨dD, hdD⟩ : ∃ dD, dD = dj := ⟨_, rfl⟩
                      rw [← hdD] at HL4
                      have HFD := Lib.hid (show dD = fixDown ltInt a i' (swp dk i' (i' - 1)) by rw [hdD, fixDown, if_pos hdn, ← hsd.out, shiftDown_stop ltInt j dj (.inl (by omega))])
                      have HLD := HL4
                      clear hcw hfw HL4 hsd hdD
                      go_wp2
                      have HFU := Lib.hid (show dD = fixUp ltInt b i' dD by rw [fixUp, if_neg hu])
                      have HLU := HLD
                      go_roundw
                      case rel => exact ⟨i', s + 1, _, _, by go_num, by go_num, by omega, by omega, by omega, HLU.out, by rw [← HQ.out, HN.out, ← HFD.out, ← HFU.out]⟩
                      case measure => simp [intOf]; omega
                · obtain ⟨dD, hdD⟩ : ∃ dD, dD = swp dk i' (i' - 1) := ⟨_, rfl⟩
                  have HFD := Lib.hid (show dD = fixDown ltInt a i' (swp dk i' (i' - 1)) by rw [hdD, fixDown, if_neg hdn])
                  have hld := HL3.out
                  rw [← hdD] at hld
                  have HLD := Lib.hid hld
                  clear hld
                  clear HL3 hdD
                  have HDN := Lib.hid hdn
                  clear hdn
                  go_region
                  have hdn := HDN.out
                  have hdz : ¬ ((2 : Int) ≤ (i' : Int) - (a : Int)) := by omega
                  all_goals go_wp2
                  have HFU := Lib.hid (show dD = fixUp ltInt b i' dD by rw [fixUp, if_neg hu])
                  have HLU := HLD
                  go_roundw
                  case rel => exact ⟨i', s + 1, _, _, by go_num, by go_num, by omega, by omega, by omega, HLU.out, by rw [← HQ.out, HN.out, ← HFD.out, ← HFU.out]⟩
                  case measure => simp [intOf]; omega
        · have heq : ((i' : Int) == (b : Int)) = true := by simp; omega
          go_wp2_with fail
          go_big_quiet (first | (go_at_call 68; refine Calls.quiet_of_same (less_u _ _ _)))
          go_wp2
          go_ret
          have e := pi_true ltInt a b s i dk hs (hsc.out.symm.trans ((scanSorted_stop ltInt dk b i' (.inl hle)).trans (by omega)))
          exact ⟨by rw [← HQ.out, e]; rfl, _, by rw [← HQ.out, e]; exact HL1.out.more nq⟩
    · obtain rfl : s = 5 := by omega
      go_wp2
      go_ret
      exact ⟨by rw [← HQ.out, pi_end]; rfl, n, by rw [← HQ.out, pi_end]; exact HL.out⟩

end Go.Proofs.Ytjpbniajhkindaa
