/- slices.Sort at []uint64, sixth part: patterns are broken, by contracts. -/
import Derived.Test.YthbaldjdfehhlaaSu0
import Derived.Test.YthbaldjdfehhlaaShelf
import Derived.Sort.Walk7
namespace Go.Proofs.Ythbaldjdfehhlaa
open Go.RowKit Go.Sort

theorem xorshift_u (rb X : Nat) (hX : X < 18446744073709551616) (w : World) (hc : w.cell? ⟨rb, 0, none⟩ = some (.int .u64 X)) (hf : w.frozen? ⟨rb, 0, none⟩ = false) :
    Calls Try.prog 69 #[.pointer (some ⟨rb, 0, none⟩)] w fun e w' => e = .returned (.int .u64 (xorNextN X : Nat)) ∧ w' = (w.setCell ⟨rb, 0, none⟩ (.int .u64 (xorNextN X : Nat))).drewN 3 := by
  obtain ⟨A, hA⟩ : ∃ A : Nat, A = X ^^^ (X * 8192 % 18446744073709551616) := ⟨_, rfl⟩
  obtain ⟨B, hB⟩ : ∃ B : Nat, B = A ^^^ (A / 128) := ⟨_, rfl⟩
  obtain ⟨C, hC⟩ : ∃ C : Nat, C = B ^^^ (B * 131072 % 18446744073709551616) := ⟨_, rfl⟩
  have lA : A < 18446744073709551616 := by rw [hA]; exact Nat.xor_lt_two_pow (n := 64) (by omega) (by omega)
  have lB : B < 18446744073709551616 := by rw [hB]; exact Nat.xor_lt_two_pow (n := 64) (by omega) (by omega)
  have x1 : bits .xor .u64 (X : Int) (IntKind.u64.wrap ((X : Int) * 8192)) = (A : Int) := by
    rw [IntKind.wrap_u64, show ((X : Int) * 8192 % 18446744073709551616) = ((X * 8192 % 18446744073709551616 : Nat) : Int) by omega, bits_xor_u64_nat _ _ hX (by omega), hA]
  have x2 : bits .xor .u64 (A : Int) ((A : Int) / 128) = (B : Int) := by
    rw [show ((A : Int) / 128) = ((A / 128 : Nat) : Int) by omega, bits_xor_u64_nat _ _ lA (by omega), hB]
  have x3 : bits .xor .u64 (B : Int) (IntKind.u64.wrap ((B : Int) * 131072)) = (C : Int) := by
    rw [IntKind.wrap_u64, show ((B : Int) * 131072 % 18446744073709551616) = ((B * 131072 % 18446744073709551616 : Nat) : Int) by omega, bits_xor_u64_nat _ _ lB (by omega), hC]
  rw [show xorNextN X = C by unfold xorNextN; simp only []; rw [← hA, ← hB, ← hC]]
  have hss : ∀ v v', (w.setCell ⟨rb, 0, none⟩ v).setCell ⟨rb, 0, none⟩ v' = w.setCell ⟨rb, 0, none⟩ v' := setCell_setCell w rb 0
  clear hA hB hC
  go_enter Try.func69, Try.ntmps69
  go_wp2
  go_region
  all_goals go_wp2
  all_goals go_region
  all_goals go_wp2
  all_goals go_region
  all_goals go_wp2
  go_ret
  exact ⟨rfl, rfl⟩

theorem nextPower_u (n : Nat) (hn : n < 4611686018427387904) (w : World) :
    Calls Try.prog 68 #[.int .i64 n] w fun e w' => e = .returned (.int .u64 ((1 <<< bitsLen n : Nat) : Int)) ∧ w' = w := by
  have hLen : ∀ w, Calls Try.prog 44 #[.int .u64 (n : Int)] w fun e w' => e = .returned (.int .i64 (bitsLen n : Nat)) ∧ w' = w := fun w => by
    have h := Try.bits_Len (n : Int) w (by omega) (by omega)
    rwa [Int.toNat_natCast, bitLen_eq _ (by omega)] at h
  have hk : bitsLen n ≤ 62 := (bitsLen_le_iff n 62).2 (by omega)
  have hp := wrap_two_pow (bitsLen n) hk
  go_enter Try.func68, Try.ntmps68
  go_wp2_with (go_at_call 44; refine (hLen _).mono ?_; rintro e w' ⟨rfl, rfl⟩)
  go_ret
  exact ⟨rfl, rfl⟩

/-- a generator in a block of its own behind a row: the world by the draws made, the generator's number and the row -/
structure Rnd (w : World) (blk off : Nat) (d : Array Int) (sb : Nat) (Wr : Nat → Nat → Array Int → World) : Prop where
  cell : ∀ n r dk, dk.size = d.size → ∀ t, t < d.size → (Wr n r dk).cell? ⟨blk, off + t, none⟩ = some (.int .u64 dk[t]!)
  melt : ∀ n r dk t, t < d.size → (Wr n r dk).frozen? ⟨blk, off + t, none⟩ = false
  rcell : ∀ n r dk, (Wr n r dk).cell? ⟨sb, 0, none⟩ = some (.int .u64 (r : Int))
  rmelt : ∀ n r dk, (Wr n r dk).frozen? ⟨sb, 0, none⟩ = false
  step : ∀ n (r r' : Nat) q dk j k, dk.size = d.size → j < d.size → k < d.size → ((((Wr n r dk).setCell ⟨sb, 0, none⟩ (.int .u64 (r' : Int))).drewN q).setCell ⟨blk, off + j, none⟩ (.int .u64 dk[k]!)).setCell ⟨blk, off + k, none⟩ (.int .u64 dk[j]!) = Wr (n + q) r' (swp dk j k)
  grown : ∀ n r dk, ∃ os, Wr n r dk = grow (putRow encU (Sort.ahead w n) blk off dk) os

theorem Rnd.make {w : World} {blk off : Nat} {d : Array Int} (hH : Holds encU w blk off d) (hblk : blk < w.heap.size) (L : Nat) (T : TypeId) :
    ∃ Wr, w.alloc (.cells #[.int .u64 (L : Int)] T) = Wr 0 L d ∧ Rnd w blk off d w.heap.size Wr := by
  have hz : ∀ n dk, (putRow encU (Sort.ahead w n) blk off dk).heap.size = w.heap.size := fun n dk => by simp
  refine ⟨fun n r dk => grow (putRow encU (Sort.ahead w n) blk off dk) #[.cells #[.int .u64 (r : Int)] T], ?_, fun n r dk hs t ht => ?_, fun n r dk t ht => ?_, fun n r dk => ?_, fun n r dk => ?_, fun n r r' q dk j k hs hj hk => ?_, fun n r dk => ⟨_, rfl⟩⟩
  · show _ = grow (putRow encU (Sort.ahead w 0) blk off d) _
    rw [show Sort.ahead w 0 = w from rfl, putRow_self _ _ _ _ _ hH, alloc_eq_grow]
  · show (grow _ _).cell? _ = _
    rw [cell?_grow _ _ _ (by rw [hz]; exact hblk)]; exact cell?_putRow _ _ _ _ d dk (holds_ahead _ _ _ _ _ _ hH) hs t (by omega)
  · show (grow _ _).frozen? _ = _
    rw [frozen?_grow _ _ _ (by rw [hz]; exact hblk), frozen?_putRow]; exact ((holds_ahead _ _ n _ _ _ hH) t ht).2
  · show (grow _ _).cell? _ = _
    have h := grow_one_cell (putRow encU (Sort.ahead w n) blk off dk) (.int .u64 (r : Int)) T
    rw [hz] at h; exact h
  · show (grow _ _).frozen? _ = _
    have h := grow_one_frozen (putRow encU (Sort.ahead w n) blk off dk) (.int .u64 (r : Int)) T
    rw [hz] at h; exact h
  · exact step_world encU w n q blk off dk j k hblk (by omega) (by omega) _ _ _

set_option maxHeartbeats 2000000 in
set_option maxRecDepth 100000 in
theorem patterns_go (blk off cap len a L : Nat) (d : Array Int) (w : World) (hlen : d.size = len) (hH : Holds encU w blk off d) (hblk : blk < w.heap.size) (hb : a + L ≤ len) (hsz : len < 4611686018427387904) (h8 : 8 ≤ L) :
    Calls Try.prog 55 #[.slice (some ⟨blk, off, none⟩) len cap, .int .i64 a, .int .i64 ((a + L : Nat) : Int)] w fun e w' =>
      e = .returned (.tuple #[]) ∧ ∃ n os, w' = grow (putRow encU (Sort.ahead w n) blk off (breakPatterns d a (a + L))) os := by
  subst hlen
  rw [breakPatterns_eq d a L h8]
  obtain ⟨M, hM⟩ : ∃ M : Nat, M = 1 <<< bitsLen L := ⟨_, rfl⟩
  have hM1 : 1 ≤ M := by rw [hM, Nat.one_shiftLeft]; exact Nat.two_pow_pos _
  have hM2 : M ≤ 2 * L := by rw [hM, Nat.one_shiftLeft]; exact two_pow_bitsLen_le (by omega)
  have hNP : ∀ w, Calls Try.prog 68 #[.int .i64 (L : Int)] w fun e w' => e = .returned (.int .u64 (M : Int)) ∧ w' = w := by rw [hM]; exact fun w => nextPower_u L (by omega) w
  rw [← hM]
  obtain ⟨Wr, hW0, hR⟩ := Rnd.make hH hblk L 86
  have HR := Lib.hid hR
  have HW0 := Lib.hid (show w.alloc (.cells #[.int .u64 (L : Int)] 86) = Wr 0 (UInt64.ofNat L).toNat d by rw [hW0, show (UInt64.ofNat L).toNat = L from by simp; omega])
  clear hM hH hR hW0
  go_enter Try.func55, Try.ntmps55
  go_wp2_with (go_at_call 68; rw [show ((a : Int) + (L : Int) - (a : Int)) = (L : Int) by omega]; refine (hNP _).mono ?_; rintro e w' ⟨rfl, rfl⟩)
  go_loopw [9] (fun vi wr => ∃ (t n : Nat) (r : UInt64) (dk : Array Int), vi = .int .i64 ((a + L / 4 * 2 - 1 + t : Nat) : Int) ∧ t ≤ 3 ∧ dk.size = d.size ∧ wr = Wr n r.toNat dk ∧
      bpRest a L M (a + L / 4 * 2 - 1) (3 - t) t (r, dk) = bpRest a L M (a + L / 4 * 2 - 1) 3 0 (UInt64.ofNat L, d)) (fun vi _ => a + L / 4 * 2 + 3 - (intOf vi).toNat)
  case atStart => exact ⟨0, 0, UInt64.ofNat L, d, by congr 1; omega, by omega, rfl, HW0.out, rfl⟩
  case round =>
    obtain ⟨t, n, r, dk, rfl, ht, hsk, hw, hq⟩ := hrel
    obtain ⟨R, hRr⟩ : ∃ R : Nat, R = r.toNat := ⟨_, rfl⟩
    have lR : R < 18446744073709551616 := by rw [hRr]; exact r.toNat_lt
    obtain ⟨R', hR'⟩ : ∃ R' : Nat, R' = xorNextN R := ⟨_, rfl⟩
    have lR' : R' < 18446744073709551616 := by rw [hR']; exact xorNextN_lt R lR
    obtain ⟨O, hO⟩ : ∃ O : Nat, O = R' &&& (M - 1) := ⟨_, rfl⟩
    have lO : O ≤ M - 1 := by rw [hO]; exact Nat.and_le_right
    have eAnd : bits .and .u64 (R' : Int) ((M : Int) - 1) = (O : Int) := by
      rw [show ((M : Int) - 1) = ((M - 1 : Nat) : Int) by omega, bits_and_u64_nat _ _ lR' (by omega), hO]
    obtain ⟨G, hG⟩ : ∃ G : Nat → Int, ∀ x, G x = dk[x]! := ⟨fun x => dk[x]!, fun _ => rfl⟩
    rw [← hRr] at hw
    have hcw : ∀ x, x < d.size → wr.cell? ⟨blk, off + x, none⟩ = some (.int .u64 (G x)) := fun x hx => by rw [hw, hG]; exact HR.out.cell _ _ _ hsk x hx
    have hfw : ∀ x, x < d.size → wr.frozen? ⟨blk, off + x, none⟩ = false := fun x hx => by rw [hw]; exact HR.out.melt _ _ _ x hx
    have hNext : Calls Try.prog 69 #[.pointer (some ⟨w.heap.size, 0, none⟩)] wr fun e w' => e = .returned (.int .u64 (R' : Int)) ∧ w' = (wr.setCell ⟨w.heap.size, 0, none⟩ (.int .u64 (R' : Int))).drewN 3 := by
      rw [hR', hw]; exact xorshift_u _ R lR _ (HR.out.rcell _ _ _) (HR.out.rmelt _ _ _)
    have HNX := Lib.hid hNext
    have HW := Lib.hid hw
    have HG := Lib.hid hG
    have HQ := Lib.hid hq
    have HN := Lib.hid (show R' = (xorNext r).toNat ∧ O = (xorNext r).toNat &&& (M - 1) from by
      have e : R' = (xorNext r).toNat := by rw [hR', hRr, xorNext_toNat]
      exact ⟨e, by rw [hO, e]⟩)
    have HST := Lib.hid (fun j k hj hk => HR.out.step n R R' 4 dk j k hsk hj hk)
    clear hw hG hq hRr hR' hO hNext
    go_wp2_with (go_at_call 69; refine HNX.out.mono ?_; rintro e w' ⟨rfl, rfl⟩)
    · have hLO : L ≤ O := by omega
      by_cases hEq : a + L / 4 * 2 - 1 + t = a + (O - L)
      all_goals
        go_region
        all_goals go_wp2
        go_roundw
        case rel =>
          refine ⟨t + 1, n + 4, xorNext r, swp dk (a + L / 4 * 2 - 1 + t) (a + (O - L)), by first | rfl | (congr 1 <;> omega), by omega, by rw [size_swp]; exact hsk, ?_, ?_⟩
          · (try rw [hEq])
            have := HST.out (a + L / 4 * 2 - 1 + t) (a + (O - L)) (by omega) (by omega)
            rw [HW.out, ← HN.out.1]
            simp only [HG.out]
            (try rw [hEq] at this)
            exact this
          · rw [← HQ.out, bp_step a L M _ t r dk (O - L) (by omega) (by rw [← HN.out.2, if_pos (by omega)])]
        case measure => simp [intOf]; omega
    · have hLO : ¬ L ≤ O := by omega
      by_cases hEq : a + L / 4 * 2 - 1 + t = a + O
      all_goals
        go_region
        all_goals go_wp2
        go_roundw
        case rel =>
          refine ⟨t + 1, n + 4, xorNext r, swp dk (a + L / 4 * 2 - 1 + t) (a + O), by first | rfl | (congr 1 <;> omega), by omega, by rw [size_swp]; exact hsk, ?_, ?_⟩
          · (try rw [hEq])
            have := HST.out (a + L / 4 * 2 - 1 + t) (a + O) (by omega) (by omega)
            rw [HW.out, ← HN.out.1]
            simp only [HG.out]
            (try rw [hEq] at this)
            exact this
          · rw [← HQ.out, bp_step a L M _ t r dk O (by omega) (by rw [← HN.out.2, if_neg (by omega)])]
        case measure => simp [intOf]; omega
    · obtain rfl : t = 3 := by omega
      obtain ⟨os, hos⟩ := HR.out.grown n R dk
      have HOS := Lib.hid hos
      clear hos
      go_end0
      exact ⟨rfl, n, os, by rw [← HQ.out, HW.out, HOS.out]; rfl⟩

theorem patterns_u (blk off cap len a b : Nat) (d : Array Int) (w : World) (hlen : d.size = len) (hH : Holds encU w blk off d) (hblk : blk < w.heap.size) (hab : a ≤ b) (hb : b ≤ len) (hsz : len < 4611686018427387904) :
    Calls Try.prog 55 #[.slice (some ⟨blk, off, none⟩) len cap, .int .i64 a, .int .i64 b] w fun e w' =>
      e = .returned (.tuple #[]) ∧ ∃ n os, w' = grow (putRow encU (Sort.ahead w n) blk off (breakPatterns d a b)) os := by
  obtain ⟨L, rfl⟩ : ∃ L, b = a + L := ⟨b - a, by omega⟩
  by_cases h8 : 8 ≤ L
  · exact patterns_go blk off cap len a L d w hlen hH hblk hb hsz h8
  · have hv : breakPatterns d a (a + L) = d := by unfold breakPatterns; simp only [Nat.add_sub_cancel_left]; rw [if_neg h8]
    rw [hv]
    have HST := Lib.hid (show w = grow (putRow encU (Sort.ahead w 0) blk off d) #[] by
      rw [grow_empty, show Sort.ahead w 0 = w from rfl, putRow_self _ _ _ _ _ hH])
    clear hH
    go_enter Try.func55, Try.ntmps55
    go_wp2
    go_end0
    exact ⟨rfl, 0, #[], HST.out⟩

end Go.Proofs.Ythbaldjdfehhlaa
