/- slices.Sort at []uint64, first part: Less, insertionSort, reverseRange, by their contracts. -/
import Derived.Test.YthbaldjdfehhlaaProg
import Derived.Sort.WalkA
import Derived.Sort.WalkB3
import Derived.WalkKit
import Derived.Lib.Hide
namespace Go.Proofs.Ythbaldjdfehhlaa
open Go.RowKit Go.Sort

abbrev encU : Int → Value := Value.int .u64

/-- the row of a block holds d (as it was when the call began, but for draws and this row) -/
structure Lies (w : World) (blk off : Nat) (d : Array Int) (n : Nat) (dk : Array Int) (wr : World) : Prop where
  size : dk.size = d.size
  eq : wr = putRow encU (Sort.ahead w n) blk off dk

section
variable {w wr : World} {blk off n : Nat} {d dk : Array Int}
theorem Lies.start (hH : Holds encU w blk off d) : Lies w blk off d 0 d w := ⟨rfl, (putRow_self _ _ _ _ _ hH).symm⟩
theorem Lies.holds (h : Lies w blk off d n dk wr) (hH : Holds encU w blk off d) : Holds encU wr blk off dk := fun t ht => by
  have ht' : t < d.size := by rw [← h.size]; exact ht
  refine ⟨?_, ?_⟩
  · rw [h.eq]; exact cell?_putRow _ _ _ _ d dk (holds_ahead _ _ _ _ _ _ hH) h.size t (by omega)
  · rw [h.eq, frozen?_putRow]; exact ((holds_ahead _ _ n _ _ _ hH) t ht').2
theorem Lies.more (h : Lies w blk off d n dk wr) (q : Nat) : Lies w blk off d (n + q) dk (wr.drewN q) := ⟨h.size, by rw [h.eq]; exact putRow_drewN _ _ _ _ _ _ _⟩
theorem Lies.swap (h : Lies w blk off d n dk wr) (q i j : Nat) (hi : i < d.size) (hj : j < d.size) :
    Lies w blk off d (n + q) (swp dk i j) (((wr.drewN q).setCell ⟨blk, off + i, none⟩ (encU dk[j]!)).setCell ⟨blk, off + j, none⟩ (encU dk[i]!)) :=
  ⟨by rw [size_swp]; exact h.size, by rw [h.eq]; exact swap_worldA encU w n q blk off dk i j (by rw [h.size]; exact hi) (by rw [h.size]; exact hj)⟩
end

theorem isNaN_u (x : Int) (w : World) : Calls Try.prog 49 #[.int .u64 x] w fun e w' => e = .returned (.bool false) ∧ w' = w := by
  go_enter Try.func49, Try.ntmps49
  go_wp2
  go_ret
  exact ⟨by simp, rfl⟩

theorem less_u (x y : Int) (w : World) : Calls Try.prog 59 #[.int .u64 x, .int .u64 y] w fun e w' => e = .returned (.bool (Sort.ltInt x y)) ∧ w' = w := by
  go_enter Try.func59, Try.ntmps59
  go_wp2_with (go_at_call 49; refine (isNaN_u _ _).mono ?_; rintro e w' ⟨rfl, rfl⟩)
  go_ret
  exact ⟨rfl, rfl⟩

set_option maxHeartbeats 1000000 in
theorem insertion_u (blk off cap len a b : Nat) (d : Array Int) (w : World) (hlen : d.size = len) (hH : Holds encU w blk off d) (hab : a ≤ b) (hb : b ≤ len) (hsz : len < 4611686018427387904) :
    Calls Try.prog 53 #[.slice (some ⟨blk, off, none⟩) len cap, .int .i64 a, .int .i64 b] w fun e w' =>
      e = .returned (.tuple #[]) ∧ ∃ n, Lies w blk off d n (Sort.insertionSort ltInt d a b) w' := by
  subst hlen
  have HH := Lib.hid hH
  have HL0 := Lib.hid (Lies.start hH)
  clear hH
  go_enter Try.func53, Try.ntmps53
  go_wp2
  go_loopw [6] (fun vi wr => ∃ (i n : Nat) (dk : Array Int), vi = .int .i64 i ∧ a < i ∧ i ≤ b + 1 ∧ Lies w blk off d n dk wr ∧ insOuter ltInt a b i dk = insOuter ltInt a b (a + 1) d) (fun vi _ => b + 1 - (intOf vi).toNat)
  case atStart => exact ⟨a + 1, 0, d, by go_num, by omega, by omega, HL0.out, rfl⟩
  case round =>
    obtain ⟨i, n, dk, rfl, hai, hib, hl, hO⟩ := hrel
    have HO := Lib.hid hO
    have HL := Lib.hid hl
    clear hO hl
    by_cases hlt : i < b
    · go_wp2
      go_loopw [7] (fun vj wr2 => ∃ (j m : Nat) (dj : Array Int), vj = .int .i64 j ∧ a ≤ j ∧ j ≤ i ∧ Lies w blk off d m dj wr2 ∧ insInner ltInt a j dj = insInner ltInt a i dk) (fun vj _ => (intOf vj).toNat)
      case atStart => exact ⟨i, n, dk, rfl, by omega, Nat.le_refl _, HL.out, rfl⟩
      case round =>
        obtain ⟨j, m, dj, rfl, haj, hji, hl2, hI⟩ := hrel
        obtain ⟨G, hG⟩ : ∃ G : Nat → Int, ∀ t, G t = dj[t]! := ⟨fun t => dj[t]!, fun _ => rfl⟩
        have hcw : ∀ t, t < d.size → wr.cell? ⟨blk, off + t, none⟩ = some (.int .u64 (G t)) := fun t ht => by rw [hG]; exact (hl2.holds HH.out t (by rw [hl2.size]; exact ht)).1
        have hfw : ∀ t, t < d.size → wr.frozen? ⟨blk, off + t, none⟩ = false := fun t ht => (hl2.holds HH.out t (by rw [hl2.size]; exact ht)).2
        have HL2 := Lib.hid hl2
        have HG := Lib.hid hG
        have HI := Lib.hid hI
        have OUT := Lib.hid (show (j ≤ a ∨ ltInt dj[j]! dj[j - 1]! = false) → ∀ q, ∃ i' n' dk', Value.int .i64 ((i : Int) + 1) = .int .i64 (i' : Nat) ∧ a < i' ∧ i' ≤ b + 1 ∧ Lies w blk off d n' dk' (wr.drewN q) ∧ insOuter ltInt a b i' dk' = insOuter ltInt a b (a + 1) d from fun hs q =>
          ⟨i + 1, m + q, dj, by go_num, by omega, by omega, hl2.more q, by rw [← HO.out, insOuter_go _ _ _ _ _ hlt, ← hI, insInner_stop _ _ _ _ hs]⟩)
        clear hl2 hG hI
        by_cases hja : a < j
        · go_wp2
          go_quiet (first | (go_at_call 59; refine Calls.quiet_of_same (less_u _ _ _)))
          go_wp2
          · have hl : ltInt (G j) (G (j - 1)) = true := by assumption
            go_region
            all_goals go_wp2
            go_roundw
            case rel =>
              refine ⟨j - 1, m + (nq + 1), swp dj j (j - 1), by congr 1; omega, by omega, by omega, ?_, ?_⟩
              · rw [HG.out, HG.out]
                exact HL2.out.swap (nq + 1) j (j - 1) (by omega) (by omega)
              · rw [← HI.out, insInner_go ltInt a j dj hja (by rw [← HG.out, ← HG.out]; exact hl)]
            case measure => simp [intOf]; omega
          · have hl : ltInt (G j) (G (j - 1)) = false := by assumption
            go_roundw
            case rel => exact OUT.out (.inr (by rw [← HG.out, ← HG.out]; exact hl)) nq
            case measure => simp [intOf]; omega
        · go_wp2
          go_quiet (first | (go_at_call 59; refine Calls.quiet_of_same (less_u _ _ _)))
          go_wp2
          go_roundw
          case rel => exact OUT.out (.inl (by omega)) nq
          case measure => simp [intOf]; omega
    · go_wp2
      go_end0
      exact ⟨rfl, n, by unfold Sort.insertionSort; rw [← HO.out, insOuter_stop _ _ _ _ _ hlt]; exact HL.out⟩

theorem reverse_u (blk off cap len a b : Nat) (d : Array Int) (w : World) (hlen : d.size = len) (hH : Holds encU w blk off d) (hab : a ≤ b) (hb : b ≤ len) (hsz : len < 4611686018427387904) :
    Calls Try.prog 57 #[.slice (some ⟨blk, off, none⟩) len cap, .int .i64 a, .int .i64 b] w fun e w' =>
      e = .returned (.tuple #[]) ∧ ∃ n, Lies w blk off d n (Sort.reverseRange d a b) w' := by
  subst hlen
  have HH := Lib.hid hH
  have HL0 := Lib.hid (Lies.start hH)
  clear hH
  by_cases h0 : a < b
  · go_enter Try.func57, Try.ntmps57
    go_wp2
    go_loopw [6, 7] (fun vi vj wr => ∃ (i j n : Nat) (dk : Array Int), vi = .int .i64 i ∧ vj = .int .i64 j ∧ a ≤ i ∧ j < b ∧ i ≤ j + 1 ∧ Lies w blk off d n dk wr ∧ reverseLoop i j dk = Sort.reverseRange d a b) (fun vi vj _ => (intOf vj).toNat + 1 - (intOf vi).toNat)
    case atStart => exact ⟨a, b - 1, 0, d, rfl, by go_num, Nat.le_refl _, by omega, by omega, HL0.out, rfl⟩
    case round =>
      obtain ⟨i, j, n, dk, rfl, rfl, hai, hjb, hij, hl, hO⟩ := hrel
      obtain ⟨G, hG⟩ : ∃ G : Nat → Int, ∀ t, G t = dk[t]! := ⟨fun t => dk[t]!, fun _ => rfl⟩
      have hcw : ∀ t, t < d.size → wr.cell? ⟨blk, off + t, none⟩ = some (.int .u64 (G t)) := fun t ht => by rw [hG]; exact (hl.holds HH.out t (by rw [hl.size]; exact ht)).1
      have hfw : ∀ t, t < d.size → wr.frozen? ⟨blk, off + t, none⟩ = false := fun t ht => (hl.holds HH.out t (by rw [hl.size]; exact ht)).2
      have HO := Lib.hid hO
      have HL := Lib.hid hl
      have HG := Lib.hid hG
      clear hO hl hG
      by_cases hlt : i < j
      · go_wp2
        go_region
        all_goals go_wp2
        go_roundw
        case rel =>
          refine ⟨i + 1, j - 1, n + 1, swp dk i j, by go_num, by congr 1; omega, by omega, by omega, by omega, ?_, ?_⟩
          · rw [HG.out, HG.out]
            exact HL.out.swap 1 i j (by omega) (by omega)
          · rw [← HO.out, reverseLoop.eq_def i j, if_pos hlt]
        case measure => simp [intOf]; omega
      · go_wp2
        go_end0
        exact ⟨rfl, n, by rw [← HO.out, reverseLoop, if_neg hlt]; exact HL.out⟩
  · obtain rfl : a = b := by omega
    go_enter Try.func57, Try.ntmps57
    go_wp2
    go_loopw [6, 7] (fun vi vj wr => vi = .int .i64 a ∧ vj = .int .i64 ((a : Int) - 1) ∧ wr = w) (fun vi vj _ => 0)
    case atStart => exact ⟨rfl, rfl, rfl⟩
    case round =>
      obtain ⟨rfl, rfl, rfl⟩ := hrel
      go_wp2
      go_end0
      exact ⟨rfl, 0, by unfold Sort.reverseRange; rw [reverseLoop, if_neg (by omega)]; exact HL0.out⟩

end Go.Proofs.Ythbaldjdfehhlaa
