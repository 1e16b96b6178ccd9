/- slices.Sort at []uint64, fifth part: the pivot is chosen, by contracts. slices.Sort at []uint64, sixth part: patterns are broken, by contracts. slices.Sort at []uint64, last part: the sort itself, by its contract: the row is sorted. slices.Sort at []uint64: the whole, at a row of the caller's own. -/
import Derived.Test.YtjpbniajhkindaaSuA
import Derived.Sort.Walk11
import Derived.Test.YtjpbniajhkindaaShelf
import Derived.Sort.Walk7
import Derived.Sort.Walk13
import Derived.Sort.AssemblyPlain
import Derived.Sort.LotD7
namespace Go.Proofs.Ytjpbniajhkindaa
open Go.RowKit Go.Sort

/-- a counter in a block of its own beside a row that is only read: the world by the draws made and the count -/
structure Cnt (w : World) (blk off : Nat) (d : Array Int) (sb : Nat) (Wc : Nat → Nat → World) : Prop where
  cell : ∀ N S t, t < d.size → (Wc N S).cell? ⟨blk, off + t, none⟩ = some (.int .u64 d[t]!)
  cnt : ∀ N S : Nat, (Wc N S).cell? ⟨sb, 0, none⟩ = some (.int .i64 (S : Int))
  melt : ∀ N S, (Wc N S).frozen? ⟨sb, 0, none⟩ = false
  put : ∀ N S T : Nat, (Wc N S).setCell ⟨sb, 0, none⟩ (.int .i64 (T : Int)) = Wc N T
  drew : ∀ N S q, (Wc N S).drewN q = Wc (N + q) S
  grown : ∀ N S, ∃ os, Wc N S = grow (Sort.ahead w N) os

theorem Cnt.make {w : World} {blk off : Nat} {d : Array Int} (hH : Holds encU w blk off d) (hblk : blk < w.heap.size) :
    ∃ Wc, w.alloc (.cells #[.int .i64 0] 3) = Wc 0 0 ∧ Cnt w blk off d w.heap.size Wc := by
  have hne : w.heap.size ≠ blk := by omega
  have hH0 : Holds encU (w.alloc (.cells #[.int .i64 0] 3)) blk off d := by rw [alloc_eq_grow]; exact holds_grow _ _ _ _ _ _ hblk hH
  have hS0 : Holds (Value.int .i64) (w.alloc (.cells #[.int .i64 0] 3)) w.heap.size 0 (one 0) := fun j hj => by
    obtain rfl : j = 0 := by simpa using hj
    simp
  refine ⟨fun N S => putRow (Value.int .i64) (Sort.ahead (w.alloc (.cells #[.int .i64 0] 3)) N) w.heap.size 0 (one S), (putRow_self _ _ _ _ _ hS0).symm, fun N S t ht => ?_, fun N S => ?_, fun N S => ?_, fun N S T => ?_, fun N S q => putRow_drewN _ _ _ _ _ _ _, fun N S => ?_⟩
  · rw [cell?_putRow_other _ _ _ _ _ _ (Or.inl (Ne.symm hne))]; exact (hH0 t ht).1
  · exact (one_cell (holds_one (n := N) (t := S) hS0)).1
  · exact (one_cell (holds_one (n := N) (t := S) hS0)).2
  · have h := one_set (holds_one (n := N) (t := S) hS0) T
    rw [h]
    exact putRow_putRow _ _ _ _ _ _ rfl
  · rw [alloc_eq_grow, ahead_grow]
    obtain ⟨os, _, h⟩ := putRow_grow_new (Value.int .i64) (Sort.ahead w N) #[.cells #[.int .i64 0] 3] w.heap.size 0 (one S) (Nat.le_refl _)
    exact ⟨os, h⟩

section
variable {w : World} {blk off sb : Nat} {d : Array Int} {Wc : Nat → Nat → World}
set_option maxHeartbeats 1000000 in
theorem order2_u (hC : Cnt w blk off d sb Wc) (len cap a b s N : Nat) (hlen : d.size = len) (ha : a < d.size) (hb : b < d.size) (hs : s < 4611686018427387904) :
    Calls Try.prog 94 #[.slice (some ⟨blk, off, none⟩) len cap, .int .i64 a, .int .i64 b, .pointer (some ⟨sb, 0, none⟩)] (Wc N s) fun e w' =>
      e = .returned (.tuple #[.int .i64 (order2 ltInt d a b s).1, .int .i64 (order2 ltInt d a b s).2.1]) ∧ ∃ N', w' = Wc N' (order2 ltInt d a b s).2.2 := by
  subst hlen
  obtain ⟨G, hG⟩ : ∃ G : Nat → Int, ∀ t, G t = d[t]! := ⟨fun t => d[t]!, fun _ => rfl⟩
  have hcw : ∀ t, t < d.size → (Wc N s).cell? ⟨blk, off + t, none⟩ = some (.int .u64 (G t)) := fun t ht => by rw [hG]; exact hC.cell N s t ht
  have HG := Lib.hid hG
  have HC := Lib.hid hC
  have hE := Lib.hid (show order2 ltInt d a b s = if ltInt d[b]! d[a]! then (b, a, s + 1) else (a, b, s) from rfl)
  obtain ⟨W, hW⟩ : ∃ W, W = Wc N s := ⟨_, rfl⟩
  rw [← hW] at hcw ⊢
  have HW := Lib.hid hW
  clear hC hG hW
  go_enter Try.func94, Try.ntmps94
  go_wp2
  go_big_quiet (first | (go_at_call 68; refine Calls.quiet_of_same (less_u _ _ _)))
  have hcnt : (W.drewN nq).cell? ⟨sb, 0, none⟩ = some (.int .i64 (s : Int)) := by rw [HW.out, HC.out.drew]; exact HC.out.cnt _ _
  have hml : (W.drewN nq).frozen? ⟨sb, 0, none⟩ = false := by rw [HW.out, HC.out.drew]; exact HC.out.melt _ _
  go_wp2
  · have hl : ltInt (G b) (G a) = true := by assumption
    go_ret2
    rw [hE.out, if_pos (by rw [← HG.out, ← HG.out]; exact hl)]
    refine ⟨rfl, N + nq, ?_⟩
    have e := HC.out.put (N + nq) s (s + 1)
    rw [← e, ← HC.out.drew, ← HW.out]
    rfl
  · have hl : ltInt (G b) (G a) = false := by assumption
    go_ret2
    rw [hE.out, if_neg (by rw [← HG.out, ← HG.out, hl]; simp)]
    exact ⟨rfl, N + nq, by rw [HW.out]; exact HC.out.drew _ _ _⟩

set_option maxHeartbeats 1000000 in
theorem median_u (hC : Cnt w blk off d sb Wc) (len cap a b c s N : Nat) (hlen : d.size = len) (ha : a < d.size) (hb : b < d.size) (hc : c < d.size) (hs : s + 3 < 4611686018427387904) :
    Calls Try.prog 87 #[.slice (some ⟨blk, off, none⟩) len cap, .int .i64 a, .int .i64 b, .int .i64 c, .pointer (some ⟨sb, 0, none⟩)] (Wc N s) fun e w' =>
      e = .returned (.int .i64 (median ltInt d a b c s).1) ∧ ∃ N', w' = Wc N' (median ltInt d a b c s).2 := by
  obtain ⟨r1, hr1⟩ : ∃ r, r = order2 ltInt d a b s := ⟨_, rfl⟩
  obtain ⟨r2, hr2⟩ : ∃ r, r = order2 ltInt d r1.2.1 c r1.2.2 := ⟨_, rfl⟩
  obtain ⟨r3, hr3⟩ : ∃ r, r = order2 ltInt d r1.1 r2.1 r2.2.2 := ⟨_, rfl⟩
  have l1 := order2_lt d s ha hb
  have s1 := order2_swaps d a b s
  rw [← hr1] at l1 s1
  have l2 := order2_lt d r1.2.2 l1.2 hc
  have s2 := order2_swaps d r1.2.1 c r1.2.2
  rw [← hr2] at l2 s2
  have HM := Lib.hid (show median ltInt d a b c s = (r3.2.1, r3.2.2) by rw [hr3, hr2, hr1]; rfl)
  have c1 := fun N => order2_u hC len cap a b s N hlen ha hb (by omega)
  have c2 := fun N => order2_u hC len cap r1.2.1 c r1.2.2 N hlen l1.2 hc (by omega)
  have c3 := fun N => order2_u hC len cap r1.1 r2.1 r2.2.2 N hlen l1.1 l2.1 (by omega)
  rw [← hr1] at c1
  rw [← hr2] at c2
  rw [← hr3] at c3
  have C1 := Lib.hid c1
  have C2 := Lib.hid c2
  have C3 := Lib.hid c3
  clear hC c1 c2 c3 hr1 hr2 hr3
  go_enter Try.func87, Try.ntmps87
  go_wp2_with fail
  refine (C1.out _).mono ?_
  rintro e w' ⟨rfl, n1, rfl⟩
  go_wp2_with fail
  refine (C2.out _).mono ?_
  rintro e w' ⟨rfl, n2, rfl⟩
  go_wp2_with fail
  refine (C3.out _).mono ?_
  rintro e w' ⟨rfl, n3, rfl⟩
  go_wp2_with fail
  go_ret
  rw [HM.out]
  exact ⟨rfl, n3, rfl⟩

theorem medianAdjacent_u (hC : Cnt w blk off d sb Wc) (len cap a s N : Nat) (hlen : d.size = len) (ha0 : 1 ≤ a) (ha : a + 1 < d.size) (hsz : d.size < 4611686018427387904) (hs : s + 3 < 4611686018427387904) :
    Calls Try.prog 86 #[.slice (some ⟨blk, off, none⟩) len cap, .int .i64 a, .pointer (some ⟨sb, 0, none⟩)] (Wc N s) fun e w' =>
      e = .returned (.int .i64 (medianAdjacent ltInt d a s).1) ∧ ∃ N', w' = Wc N' (medianAdjacent ltInt d a s).2 := by
  have hc := median_u hC len cap (a - 1) a (a + 1) s N hlen (by omega) (by omega) ha hs
  rw [show ((a - 1 : Nat) : Int) = (a : Int) - 1 by omega, show ((a + 1 : Nat) : Int) = (a : Int) + 1 by omega] at hc
  have HC := Lib.hid hc
  clear hC hc
  go_enter Try.func86, Try.ntmps86
  go_wp2_with fail
  refine HC.out.mono ?_
  rintro e w' ⟨rfl, n1, rfl⟩
  go_wp2_with fail
  go_ret
  exact ⟨rfl, n1, rfl⟩
end

/-- the hint's number by the count -/
theorem hint_is (s : Nat) : ∃ H : Int, H = hintCode (hintOf s) ∧ (s = 0 → H = 1) ∧ (s = 12 → H = 2) ∧ (s ≠ 0 → s ≠ 12 → H = 0) :=
  ⟨_, rfl, fun h => by rw [h]; rfl, fun h => by rw [h]; rfl, fun h1 h2 => by unfold hintOf; rw [if_neg h1, if_neg h2]; rfl⟩

set_option maxRecDepth 100000 in
set_option maxHeartbeats 2000000 in
theorem pivot_u (blk off cap len a b : Nat) (d : Array Int) (w : World) (hlen : d.size = len) (hH : Holds encU w blk off d) (hblk : blk < w.heap.size) (hab : a < b) (hb : b ≤ len) (hsz : len < 4611686018427387904) :
    Calls Try.prog 65 #[.slice (some ⟨blk, off, none⟩) len cap, .int .i64 a, .int .i64 b] w fun e w' =>
      e = .returned (.tuple #[.int .i64 (choosePivot ltInt d a b).1, .int .i64 (hintCode (choosePivot ltInt d a b).2)]) ∧ ∃ n os, w' = grow (Sort.ahead w n) os := by
  obtain ⟨Wc, hW0, hC⟩ := Cnt.make hH hblk
  clear hH
  rw [choosePivot_eq]
  obtain ⟨I, hI⟩ : ∃ I : Nat, I = a + (b - a) / 4 * 1 := ⟨_, rfl⟩
  obtain ⟨J, hJ⟩ : ∃ J : Nat, J = a + (b - a) / 4 * 2 := ⟨_, rfl⟩
  obtain ⟨K, hK⟩ : ∃ K : Nat, K = a + (b - a) / 4 * 3 := ⟨_, rfl⟩
  have eI : ((a : Int) + ((b : Int) - (a : Int)) / 4) = (I : Int) := by omega
  have eJ : ((a : Int) + ((b : Int) - (a : Int)) / 4 * 2) = (J : Int) := by omega
  have eK : ((a : Int) + ((b : Int) - (a : Int)) / 4 * 3) = (K : Int) := by omega
  obtain ⟨p, s, hraw⟩ : ∃ p s, rawPivot ltInt d a b = (p, s) := ⟨_, _, rfl⟩
  obtain ⟨Hc, hHc, hh0, hh12, hhx⟩ := hint_is s
  have HE := Lib.hid (show (fun e w' => e = Ending.returned (.tuple #[.int .i64 (rawPivot ltInt d a b).1, .int .i64 (hintCode (hintOf (rawPivot ltInt d a b).2))]) ∧ ∃ n os, w' = grow (Sort.ahead w n) os) = (fun (e : Ending) (w' : World) => e = .returned (.tuple #[.int .i64 (p : Int), .int .i64 Hc]) ∧ ∃ n os, w' = grow (Sort.ahead w n) os) by rw [hraw, hHc])
  refine Calls.mono ?_ (fun e w' h => (show _ from by have := congrFun (congrFun HE.out e) w'; exact this.mpr h))
  by_cases h8 : b - a ≥ 8
  · by_cases h50 : b - a ≥ 50
    · obtain ⟨i1, s1, h1⟩ : ∃ i1 s1, medianAdjacent ltInt d I 0 = (i1, s1) := ⟨_, _, rfl⟩
      obtain ⟨j1, s2, h2⟩ : ∃ j1 s2, medianAdjacent ltInt d J s1 = (j1, s2) := ⟨_, _, rfl⟩
      obtain ⟨k1, s3, h3⟩ : ∃ k1 s3, medianAdjacent ltInt d K s2 = (k1, s3) := ⟨_, _, rfl⟩
      have h4 : median ltInt d i1 j1 k1 s3 = (p, s) := by
        rw [← hraw]; simp only [rawPivot, if_pos h8, if_pos h50, ← hI, ← hJ, ← hK, h1, h2, h3]
      have m1 := medianAdjacent_mem ltInt d I 0; rw [h1] at m1
      have m2 := medianAdjacent_mem ltInt d J s1; rw [h2] at m2
      have m3 := medianAdjacent_mem ltInt d K s2; rw [h3] at m3
      have n1 := medianAdjacent_count ltInt d I 0; rw [h1] at n1
      have n2 := medianAdjacent_count ltInt d J s1; rw [h2] at n2
      have n3 := medianAdjacent_count ltInt d K s2; rw [h3] at n3
      simp only [] at m1 m2 m3 n1 n2 n3
      have c1 := medianAdjacent_u hC len cap I 0 0 hlen (by omega) (by omega) (by omega) (by omega); rw [h1] at c1
      have c2 := fun N => medianAdjacent_u hC len cap J s1 N hlen (by omega) (by omega) (by omega) (by omega); rw [h2] at c2
      have c3 := fun N => medianAdjacent_u hC len cap K s2 N hlen (by omega) (by omega) (by omega) (by omega); rw [h3] at c3
      have c4 := fun N => median_u hC len cap i1 j1 k1 s3 N hlen (by omega) (by omega) (by omega) (by omega); rw [h4] at c4
      have C1 := Lib.hid c1
      have C2 := Lib.hid c2
      have C3 := Lib.hid c3
      have C4 := Lib.hid c4
      have HC := Lib.hid hC
      have HK := Lib.hid (And.intro hh0 (And.intro hh12 hhx))
      have hcn := hC.cnt
      clear c1 c2 c3 c4 hC h1 h2 h3 h4 m1 m2 m3 n1 n2 n3 hI hJ hK hh0 hh12 hhx hraw HE hHc
      go_enter Try.func65, Try.ntmps65
      go_wp2_with fail
      refine C1.out.mono ?_
      rintro e w' ⟨rfl, N1, rfl⟩
      go_wp2_with fail
      refine (C2.out _).mono ?_
      rintro e w' ⟨rfl, N2, rfl⟩
      go_wp2_with fail
      refine (C3.out _).mono ?_
      rintro e w' ⟨rfl, N3, rfl⟩
      go_wp2_with fail
      refine (C4.out _).mono ?_
      rintro e w' ⟨rfl, N4, rfl⟩
      have hgr := HC.out.grown N4 s
      by_cases e0 : s = 0
      · have h0 := HK.out.1 e0
        subst e0 h0
        go_wp2
        go_ret2
        exact ⟨rfl, _, hgr⟩
      · have e0z : ((s : Int) == 0) = false := by simp; omega
        by_cases e1 : s = 12
        · have h0 := HK.out.2.1 e1
          subst e1 h0
          go_wp2
          go_ret2
          exact ⟨rfl, _, hgr⟩
        · have h0 := HK.out.2.2 e0 e1
          have e1z : ((s : Int) == 12) = false := by simp; omega
          subst h0
          go_wp2
          go_ret2
          exact ⟨rfl, _, hgr⟩
    · have h4 : median ltInt d I J K 0 = (p, s) := by
        rw [← hraw]; simp only [rawPivot, if_pos h8, if_neg h50, ← hI, ← hJ, ← hK]
      have c4 := median_u hC len cap I J K 0 0 hlen (by omega) (by omega) (by omega) (by omega); rw [h4] at c4
      have C4 := Lib.hid c4
      have HC := Lib.hid hC
      have HK := Lib.hid (And.intro hh0 (And.intro hh12 hhx))
      have hcn := hC.cnt
      clear c4 hC h4 hI hJ hK hh0 hh12 hhx hraw HE hHc
      go_enter Try.func65, Try.ntmps65
      go_wp2_with fail
      refine C4.out.mono ?_
      rintro e w' ⟨rfl, N4, rfl⟩
      have hgr := HC.out.grown N4 s
      by_cases e0 : s = 0
      · have h0 := HK.out.1 e0
        subst e0 h0
        go_wp2
        go_ret2
        exact ⟨rfl, _, hgr⟩
      · have e0z : ((s : Int) == 0) = false := by simp; omega
        by_cases e1 : s = 12
        · have h0 := HK.out.2.1 e1
          subst e1 h0
          go_wp2
          go_ret2
          exact ⟨rfl, _, hgr⟩
        · have h0 := HK.out.2.2 e0 e1
          have e1z : ((s : Int) == 12) = false := by simp; omega
          subst h0
          go_wp2
          go_ret2
          exact ⟨rfl, _, hgr⟩
  · have h4 : p = J ∧ s = 0 := by
      have : rawPivot ltInt d a b = (J, 0) := by simp only [rawPivot, if_neg h8, ← hJ]
      rw [hraw] at this
      exact ⟨congrArg Prod.fst this, congrArg Prod.snd this⟩
    obtain ⟨rfl, rfl⟩ := h4
    have h0 := hh0 rfl
    subst h0
    have hgr := hC.grown 0 0
    have hcn := hC.cnt
    clear hC hI hJ hK hh0 hh12 hhx hraw HE hHc
    go_enter Try.func65, Try.ntmps65
    go_wp2
    go_ret2
    exact ⟨rfl, _, hgr⟩

end Go.Proofs.Ytjpbniajhkindaa

namespace Go.Proofs.Ytjpbniajhkindaa
open Go.RowKit Go.Sort

theorem xorshift_u (rb X : Nat) (hX : X < 18446744073709551616) (w : World) (hc : w.cell? ⟨rb, 0, none⟩ = some (.int .u64 X)) (hf : w.frozen? ⟨rb, 0, none⟩ = false) :
    Calls Try.prog 85 #[.pointer (some ⟨rb, 0, none⟩)] w fun e w' => e = .returned (.int .u64 (xorNextN X : Nat)) ∧ w' = (w.setCell ⟨rb, 0, none⟩ (.int .u64 (xorNextN X : Nat))).drewN 3 := by
  obtain ⟨A, hA⟩ : ∃ A : Nat, A = X ^^^ (X * 8192 % 18446744073709551616) := ⟨_, rfl⟩
  obtain ⟨B, hB⟩ : ∃ B : Nat, B = A ^^^ (A / 128) := ⟨_, rfl⟩
  obtain ⟨C, hC⟩ : ∃ C : Nat, C = B ^^^ (B * 131072 % 18446744073709551616) := ⟨_, rfl⟩
  have lA : A < 18446744073709551616 := by rw [hA]; exact Nat.xor_lt_two_pow (n := 64) (by omega) (by omega)
  have lB : B < 18446744073709551616 := by rw [hB]; exact Nat.xor_lt_two_pow (n := 64) (by omega) (by omega)
  have x1 : bits .xor .u64 (X : Int) (IntKind.u64.wrap ((X : Int) * 8192)) = (A : Int) := by
    rw [IntKind.wrap_u64, show ((X : Int) * 8192 % 18446744073709551616) = ((X * 8192 % 18446744073709551616 : Nat) : Int) by omega, bits_xor_u64_nat _ _ hX (by omega), hA]
  have x2 : bits .xor .u64 (A : Int) ((A : Int) / 128) = (B : Int) := by
    rw [show ((A : Int) / 128) = ((A / 128 : Nat) : Int) by omega, bits_xor_u64_nat _ _ lA (by omega), hB]
  have x3 : bits .xor .u64 (B : Int) (IntKind.u64.wrap ((B : Int) * 131072)) = (C : Int) := by
    rw [IntKind.wrap_u64, show ((B : Int) * 131072 % 18446744073709551616) = ((B * 131072 % 18446744073709551616 : Nat) : Int) by omega, bits_xor_u64_nat _ _ lB (by omega), hC]
  rw [show xorNextN X = C by unfold xorNextN; simp only []; rw [← hA, ← hB, ← hC]]
  have hss : ∀ v v', (w.setCell ⟨rb, 0, none⟩ v).setCell ⟨rb, 0, none⟩ v' = w.setCell ⟨rb, 0, none⟩ v' := setCell_setCell w rb 0
  clear hA hB hC
  go_enter Try.func85, Try.ntmps85
  go_wp2
  go_region
  all_goals go_wp2
  all_goals go_region
  all_goals go_wp2
  all_goals go_region
  all_goals go_wp2
  go_ret
  exact ⟨rfl, rfl⟩

theorem nextPower_u (n : Nat) (hn : n < 4611686018427387904) (w : World) :
    Calls Try.prog 84 #[.int .i64 n] w fun e w' => e = .returned (.int .u64 ((1 <<< bitsLen n : Nat) : Int)) ∧ w' = w := by
  have hLen : ∀ w, Calls Try.prog 54 #[.int .u64 (n : Int)] w fun e w' => e = .returned (.int .i64 (bitsLen n : Nat)) ∧ w' = w := fun w => by
    have h := Try.bits_Len (n : Int) w (by omega) (by omega)
    rwa [Int.toNat_natCast, bitLen_eq _ (by omega)] at h
  have hk : bitsLen n ≤ 62 := (bitsLen_le_iff n 62).2 (by omega)
  have hp := wrap_two_pow (bitsLen n) hk
  go_enter Try.func84, Try.ntmps84
  go_wp2_with (go_at_call 54; refine (hLen _).mono ?_; rintro e w' ⟨rfl, rfl⟩)
  go_ret
  exact ⟨rfl, rfl⟩

/-- a generator in a block of its own behind a row: the world by the draws made, the generator's number and the row -/
structure Rnd (w : World) (blk off : Nat) (d : Array Int) (sb : Nat) (Wr : Nat → Nat → Array Int → World) : Prop where
  cell : ∀ n r dk, dk.size = d.size → ∀ t, t < d.size → (Wr n r dk).cell? ⟨blk, off + t, none⟩ = some (.int .u64 dk[t]!)
  melt : ∀ n r dk t, t < d.size → (Wr n r dk).frozen? ⟨blk, off + t, none⟩ = false
  rcell : ∀ n r dk, (Wr n r dk).cell? ⟨sb, 0, none⟩ = some (.int .u64 (r : Int))
  rmelt : ∀ n r dk, (Wr n r dk).frozen? ⟨sb, 0, none⟩ = false
  step : ∀ n (r r' : Nat) q dk j k, dk.size = d.size → j < d.size → k < d.size → ((((Wr n r dk).setCell ⟨sb, 0, none⟩ (.int .u64 (r' : Int))).drewN q).setCell ⟨blk, off + j, none⟩ (.int .u64 dk[k]!)).setCell ⟨blk, off + k, none⟩ (.int .u64 dk[j]!) = Wr (n + q) r' (swp dk j k)
  grown : ∀ n r dk, ∃ os, Wr n r dk = grow (putRow encU (Sort.ahead w n) blk off dk) os

theorem Rnd.make {w : World} {blk off : Nat} {d : Array Int} (hH : Holds encU w blk off d) (hblk : blk < w.heap.size) (L : Nat) (T : TypeId) :
    ∃ Wr, w.alloc (.cells #[.int .u64 (L : Int)] T) = Wr 0 L d ∧ Rnd w blk off d w.heap.size Wr := by
  have hz : ∀ n dk, (putRow encU (Sort.ahead w n) blk off dk).heap.size = w.heap.size := fun n dk => by simp
  refine ⟨fun n r dk => grow (putRow encU (Sort.ahead w n) blk off dk) #[.cells #[.int .u64 (r : Int)] T], ?_, fun n r dk hs t ht => ?_, fun n r dk t ht => ?_, fun n r dk => ?_, fun n r dk => ?_, fun n r r' q dk j k hs hj hk => ?_, fun n r dk => ⟨_, rfl⟩⟩
  · show _ = grow (putRow encU (Sort.ahead w 0) blk off d) _
    rw [show Sort.ahead w 0 = w from rfl, putRow_self _ _ _ _ _ hH, alloc_eq_grow]
  · show (grow _ _).cell? _ = _
    rw [cell?_grow _ _ _ (by rw [hz]; exact hblk)]; exact cell?_putRow _ _ _ _ d dk (holds_ahead _ _ _ _ _ _ hH) hs t (by omega)
  · show (grow _ _).frozen? _ = _
    rw [frozen?_grow _ _ _ (by rw [hz]; exact hblk), frozen?_putRow]; exact ((holds_ahead _ _ n _ _ _ hH) t ht).2
  · show (grow _ _).cell? _ = _
    have h := grow_one_cell (putRow encU (Sort.ahead w n) blk off dk) (.int .u64 (r : Int)) T
    rw [hz] at h; exact h
  · show (grow _ _).frozen? _ = _
    have h := grow_one_frozen (putRow encU (Sort.ahead w n) blk off dk) (.int .u64 (r : Int)) T
    rw [hz] at h; exact h
  · exact step_world encU w n q blk off dk j k hblk (by omega) (by omega) _ _ _

set_option maxHeartbeats 2000000 in
set_option maxRecDepth 100000 in
theorem patterns_go (blk off cap len a L : Nat) (d : Array Int) (w : World) (hlen : d.size = len) (hH : Holds encU w blk off d) (hblk : blk < w.heap.size) (hb : a + L ≤ len) (hsz : len < 4611686018427387904) (h8 : 8 ≤ L) :
    Calls Try.prog 64 #[.slice (some ⟨blk, off, none⟩) len cap, .int .i64 a, .int .i64 ((a + L : Nat) : Int)] w fun e w' =>
      e = .returned (.tuple #[]) ∧ ∃ n os, w' = grow (putRow encU (Sort.ahead w n) blk off (breakPatterns d a (a + L))) os := by
  subst hlen
  rw [breakPatterns_eq d a L h8]
  obtain ⟨M, hM⟩ : ∃ M : Nat, M = 1 <<< bitsLen L := ⟨_, rfl⟩
  have hM1 : 1 ≤ M := by rw [hM, Nat.one_shiftLeft]; exact Nat.two_pow_pos _
  have hM2 : M ≤ 2 * L := by rw [hM, Nat.one_shiftLeft]; exact two_pow_bitsLen_le (by omega)
  have hNP : ∀ w, Calls Try.prog 84 #[.int .i64 (L : Int)] w fun e w' => e = .returned (.int .u64 (M : Int)) ∧ w' = w := by rw [hM]; exact fun w => nextPower_u L (by omega) w
  rw [← hM]
  obtain ⟨Wr, hW0, hR⟩ := Rnd.make hH hblk L 129
  have HR := Lib.hid hR
  have HW0 := Lib.hid (show w.alloc (.cells #[.int .u64 (L : Int)] 129) = Wr 0 (UInt64.ofNat L).toNat d by rw [hW0, show (UInt64.ofNat L).toNat = L from by simp; omega])
  clear hM hH hR hW0
  go_enter Try.func64, Try.ntmps64
  go_wp2_with (go_at_call 84; rw [show ((a : Int) + (L : Int) - (a : Int)) = (L : Int) by omega]; refine (hNP _).mono ?_; rintro e w' ⟨rfl, rfl⟩)
  go_loopw [9] (fun vi wr => ∃ (t n : Nat) (r : UInt64) (dk : Array Int), vi = .int .i64 ((a + L / 4 * 2 - 1 + t : Nat) : Int) ∧ t ≤ 3 ∧ dk.size = d.size ∧ wr = Wr n r.toNat dk ∧
      bpRest a L M (a + L / 4 * 2 - 1) (3 - t) t (r, dk) = bpRest a L M (a + L / 4 * 2 - 1) 3 0 (UInt64.ofNat L, d)) (fun vi _ => a + L / 4 * 2 + 3 - (intOf vi).toNat)
  case atStart => exact ⟨0, 0, UInt64.ofNat L, d, by congr 1; omega, by omega, rfl, HW0.out, rfl⟩
  case round =>
    obtain ⟨t, n, r, dk, rfl, ht, hsk, hw, hq⟩ := hrel
    obtain ⟨R, hRr⟩ : ∃ R : Nat, R = r.toNat := ⟨_, rfl⟩
    have lR : R < 18446744073709551616 := by rw [hRr]; exact r.toNat_lt
    obtain ⟨R', hR'⟩ : ∃ R' : Nat, R' = xorNextN R := ⟨_, rfl⟩
    have lR' : R' < 18446744073709551616 := by rw [hR']; exact xorNextN_lt R lR
    obtain ⟨O, hO⟩ : ∃ O : Nat, O = R' &&& (M - 1) := ⟨_, rfl⟩
    have lO : O ≤ M - 1 := by rw [hO]; exact Nat.and_le_right
    have eAnd : bits .and .u64 (R' : Int) ((M : Int) - 1) = (O : Int) := by
      rw [show ((M : Int) - 1) = ((M - 1 : Nat) : Int) by omega, bits_and_u64_nat _ _ lR' (by omega), hO]
    obtain ⟨G, hG⟩ : ∃ G : Nat → Int, ∀ x, G x = dk[x]! := ⟨fun x => dk[x]!, fun _ => rfl⟩
    rw [← hRr] at hw
    have hcw : ∀ x, x < d.size → wr.cell? ⟨blk, off + x, none⟩ = some (.int .u64 (G x)) := fun x hx => by rw [hw, hG]; exact HR.out.cell _ _ _ hsk x hx
    have hfw : ∀ x, x < d.size → wr.frozen? ⟨blk, off + x, none⟩ = false := fun x hx => by rw [hw]; exact HR.out.melt _ _ _ x hx
    have hNext : Calls Try.prog 85 #[.pointer (some ⟨w.heap.size, 0, none⟩)] wr fun e w' => e = .returned (.int .u64 (R' : Int)) ∧ w' = (wr.setCell ⟨w.heap.size, 0, none⟩ (.int .u64 (R' : Int))).drewN 3 := by
      rw [hR', hw]; exact xorshift_u _ R lR _ (HR.out.rcell _ _ _) (HR.out.rmelt _ _ _)
    have HNX := Lib.hid hNext
    have HW := Lib.hid hw
    have HG := Lib.hid hG
    have HQ := Lib.hid hq
    have HN := Lib.hid (show R' = (xorNext r).toNat ∧ O = (xorNext r).toNat &&& (M - 1) from by
      have e : R' = (xorNext r).toNat := by rw [hR', hRr, xorNext_toNat]
      exact ⟨e, by rw [hO, e]⟩)
    have HST := Lib.hid (fun j k hj hk => HR.out.step n R R' 4 dk j k hsk hj hk)
    clear hw hG hq hRr hR' hO hNext
    go_wp2_with (go_at_call 85; refine HNX.out.mono ?_; rintro e w' ⟨rfl, rfl⟩)
    · have hLO : L ≤ O := by omega
      by_cases hEq : a + L / 4 * 2 - 1 + t = a + (O - L)
      all_goals
        go_region
        all_goals go_wp2
        go_roundw
        case rel =>
          refine ⟨t + 1, n + 4, xorNext r, swp dk (a + L / 4 * 2 - 1 + t) (a + (O - L)), by first | rfl | (congr 1 <;> omega), by omega, by rw [size_swp]; exact hsk, ?_, ?_⟩
          · (try rw [hEq])
            have := HST.out (a + L / 4 * 2 - 1 + t) (a + (O - L)) (by omega) (by omega)
            rw [HW.out, ← HN.out.1]
            simp only [HG.out]
            (try rw [hEq] at this)
            exact this
          · rw [← HQ.out, bp_step a L M _ t r dk (O - L) (by omega) (by rw [← HN.out.2, if_pos (by omega)])]
        case measure => simp [intOf]; omega
    · have hLO : ¬ L ≤ O := by omega
      by_cases hEq : a + L / 4 * 2 - 1 + t = a + O
      all_goals
        go_region
        all_goals go_wp2
        go_roundw
        case rel =>
          refine ⟨t + 1, n + 4, xorNext r, swp dk (a + L / 4 * 2 - 1 + t) (a + O), by first | rfl | (congr 1 <;> omega), by omega, by rw [size_swp]; exact hsk, ?_, ?_⟩
          · (try rw [hEq])
            have := HST.out (a + L / 4 * 2 - 1 + t) (a + O) (by omega) (by omega)
            rw [HW.out, ← HN.out.1]
            simp only [HG.out]
            (try rw [hEq] at this)
            exact this
          · rw [← HQ.out, bp_step a L M _ t r dk O (by omega) (by rw [← HN.out.2, if_neg (by omega)])]
        case measure => simp [intOf]; omega
    · obtain rfl : t = 3 := by omega
      obtain ⟨os, hos⟩ := HR.out.grown n R dk
      have HOS := Lib.hid hos
      clear hos
      go_end0
      exact ⟨rfl, n, os, by rw [← HQ.out, HW.out, HOS.out]; rfl⟩

theorem patterns_u (blk off cap len a b : Nat) (d : Array Int) (w : World) (hlen : d.size = len) (hH : Holds encU w blk off d) (hblk : blk < w.heap.size) (hab : a ≤ b) (hb : b ≤ len) (hsz : len < 4611686018427387904) :
    Calls Try.prog 64 #[.slice (some ⟨blk, off, none⟩) len cap, .int .i64 a, .int .i64 b] w fun e w' =>
      e = .returned (.tuple #[]) ∧ ∃ n os, w' = grow (putRow encU (Sort.ahead w n) blk off (breakPatterns d a b)) os := by
  obtain ⟨L, rfl⟩ : ∃ L, b = a + L := ⟨b - a, by omega⟩
  by_cases h8 : 8 ≤ L
  · exact patterns_go blk off cap len a L d w hlen hH hblk hb hsz h8
  · have hv : breakPatterns d a (a + L) = d := by unfold breakPatterns; simp only [Nat.add_sub_cancel_left]; rw [if_neg h8]
    rw [hv]
    have HST := Lib.hid (show w = grow (putRow encU (Sort.ahead w 0) blk off d) #[] by
      rw [grow_empty, show Sort.ahead w 0 = w from rfl, putRow_self _ _ _ _ _ hH])
    clear hH
    go_enter Try.func64, Try.ntmps64
    go_wp2
    go_end0
    exact ⟨rfl, 0, #[], HST.out⟩

end Go.Proofs.Ytjpbniajhkindaa

namespace Go.Proofs.Ytjpbniajhkindaa
open Go.RowKit Go.Sort

theorem Lies.one {w w' : World} {blk off : Nat} {d dk : Array Int} (h : ∃ n, Lies w blk off d n dk w') : ∃ m, w' = putRow encU (Sort.ahead w m) blk off dk := by
  obtain ⟨n, h⟩ := h
  exact ⟨n, h.eq⟩

section
variable {w wr : World} {blk off : Nat} {d dk : Array Int}
theorem at_cells (h : At encU w blk off dk wr) (hH : Holds encU w blk off d) (hs : dk.size = d.size) (hb : blk < w.heap.size) : ∃ G : Nat → Int, (∀ t, G t = dk[t]!) ∧ (∀ t, t < d.size → wr.cell? ⟨blk, off + t, none⟩ = some (.int .u64 (G t))) ∧ (∀ t, t < d.size → wr.frozen? ⟨blk, off + t, none⟩ = false) :=
  ⟨fun t => dk[t]!, fun _ => rfl, fun t ht => ((h.holds hH hs hb).1 t (by omega)).1, fun t ht => ((h.holds hH hs hb).1 t (by omega)).2⟩
end

theorem atTrans {w w1 w2 : World} {blk off : Nat} {d d' : Array Int} (h : At encU w blk off d w1) (k : At encU w1 blk off d' w2) (hb : blk < w.heap.size) (hs : d'.size = d.size) : At encU w blk off d' w2 := by
  obtain ⟨m, os, hk⟩ := k
  exact h.stepG hb hs ⟨m, os, hk⟩

set_option maxHeartbeats 12800000 in
set_option maxRecDepth 1000000 in
theorem pdq_u : ∀ (N blk off cap len a b limit : Nat) (d : Array Int) (w : World), b - a < N → d.size = len → Holds encU w blk off d → blk < w.heap.size → a ≤ b → b ≤ len → len < 4611686018427387904 → limit < 4611686018427387904 → Sort.Below ltInt a b d →
    Calls Try.prog 53 #[.slice (some ⟨blk, off, none⟩) len cap, .int .i64 a, .int .i64 b, .int .i64 limit] w fun e w' => e = .returned (.tuple #[]) ∧ At encU w blk off (pdq ltInt d a b limit true true) w' := by
  intro N
  induction N with
  | zero => intro _ _ _ _ _ _ _ _ _ h; exact absurd h (Nat.not_lt_zero _)
  | succ N ih =>
    intro blk off cap len a b limit d w hN hlen hH hblk hab hb hsz hlimit hBel0
    subst hlen
    have swo : SWO ltInt := swo_ltInt
    have HH := Lib.hid hH
    have HA0 := Lib.hid (At.refl hH)
    clear hH
    go_enter Try.func53, Try.ntmps53
    go_wp2
    go_loopg [1, 2, 3, 8, 9] (b - a) (fun k s1 s2 s3 s8 s9 wr => ∃ (a' b' lim : Nat) (wb wp : Bool) (dk : Array Int), s1 = .int .i64 a' ∧ s2 = .int .i64 b' ∧ s3 = .int .i64 lim ∧ s8 = .bool wb ∧ s9 = .bool wp ∧
      a' ≤ b' ∧ b' ≤ d.size ∧ b' - a' ≤ k ∧ k ≤ b - a ∧ lim ≤ limit ∧ dk.size = d.size ∧ Sort.Below ltInt a' b' dk ∧ At encU w blk off dk wr ∧ pdq ltInt dk a' b' lim wb wp = pdq ltInt d a b limit true true)
    case atStart => exact ⟨a, b, limit, true, true, d, rfl, rfl, rfl, rfl, rfl, hab, hb, Nat.le_refl _, Nat.le_refl _, Nat.le_refl _, rfl, hBel0, HA0.out, rfl⟩
    case round =>
      obtain ⟨a', b', lim, wb, wp, dk, rfl, rfl, rfl, rfl, rfl, hab', hb', hk, hkN, hlim, hds, hBel, hAt, heq⟩ := hrel
      obtain ⟨hHk, hblk'⟩ := hAt.holds HH.out hds hblk
      have HQ := Lib.hid heq
      have HA := Lib.hid hAt
      have HB := Lib.hid hBel
      clear heq hAt hBel
      by_cases h12 : b' - a' ≤ 12
      · have h12z : (b' : Int) - (a' : Int) ≤ 12 := by omega
        have HC := Lib.hid (insertion_u blk off cap d.size a' b' dk wr hds hHk hab' hb' hsz)
        clear hHk
        go_wp2_with (go_at_call 62; refine HC.out.mono ?_; rintro e w1 ⟨rfl, hw1⟩)
        (try simp only [Exit.inBlock, Exit.then]); refine bodyPost_ret (results_none rfl _ _ _) rfl ?_
        refine ⟨rfl, ?_⟩
        rw [← HQ.out, pdq_small h12]
        exact HA.out.step hblk (insertionSort_holds swo dk a' b' hab' (by omega)).1.1 (Lies.one hw1)
      · have h12z : ¬ ((b' : Int) - (a' : Int) ≤ 12) := by omega
        by_cases hl0 : lim = 0
        · subst hl0
          have HC := Lib.hid (heapSort_u blk off cap d.size a' b' dk wr hds hHk hab' hb' hsz)
          clear hHk
          go_wp2_with (go_at_call 63; refine HC.out.mono ?_; rintro e w1 ⟨rfl, hw1⟩)
          (try simp only [Exit.inBlock, Exit.then]); refine bodyPost_ret (results_none rfl _ _ _) rfl ?_
          refine ⟨rfl, ?_⟩
          rw [← HQ.out, pdq_heap h12 rfl]
          exact HA.out.step hblk (heapSort_holds swo dk a' b' hab' (by omega)).1.1 (Lies.one hw1)
        · have hl0z : ¬ ((lim : Int) = 0) := by omega
          obtain ⟨s1, B1, hc1, s2, B2, hpv, s3, B3⟩ := rd_facts (limit := lim) (wb := wb) (wp := wp) swo partialInsertionSort_holds reverseRange_holds (show a' < b' by omega) (show b' ≤ dk.size by omega) HB.out
          have hlr : (rd ltInt dk a' b' lim wb wp).lim ≤ lim := rd_lim_le
          obtain ⟨R, hR⟩ : ∃ R, R = rd ltInt dk a' b' lim wb wp := ⟨_, rfl⟩
          rw [← hR] at s1 B1 hc1 s2 B2 hpv s3 B3 hlr
          have HR := Lib.hid hR
          have HB3 := Lib.hid B3
          clear hR B1 B2 B3
          go_upto_if 35 with fail
          go_cut [3] from 19 (fun s3 wc => s3 = .int .i64 R.lim ∧ At encU w blk off R.d1 wc)
          case first =>
            cases wb
            · have HC := Lib.hid (patterns_u blk off cap d.size a' b' dk wr hds hHk hblk' hab' hb' hsz)
              clear hHk
              go_wp2_with (go_at_call 64; refine HC.out.mono ?_; rintro e w1 ⟨rfl, hw1⟩)
              go_meet
              case rel =>
                have e1 : R.d1 = breakPatterns dk a' b' := by rw [HR.out]; rfl
                have e2 : R.lim = lim - 1 := by rw [HR.out]; rfl
                rw [e1, e2]
                refine ⟨?_, HA.out.stepG hblk (e1 ▸ s1) hw1⟩
                congr 1
                omega
            · have e1 : R.d1 = dk := by rw [HR.out]; rfl
              have e2 : R.lim = lim := by rw [HR.out]; rfl
              go_wp2_with fail
              go_meet
              case rel =>
                rw [e1, e2]
                exact ⟨rfl, HA.out⟩
          case rest =>
            obtain ⟨rfl, hAt1⟩ := hcut
            obtain ⟨hH1, hblk1⟩ := hAt1.holds HH.out (s1.trans hds) hblk
            have HC := Lib.hid (pivot_u blk off cap d.size a' b' R.d1 wc (s1.trans hds) hH1 hblk1 (by omega) hb' hsz)
            rw [show choosePivot ltInt R.d1 a' b' = R.c by rw [HR.out]; rfl] at HC
            have HA1 := Lib.hid hAt1
            clear hAt1 hH1 hHk
            go_upto_if 50 with (go_at_call 65; refine HC.out.mono ?_; rintro e w2 ⟨rfl, hw2⟩)
            have hAt2 := HA1.out.same HH.out (s1.trans hds) hblk hw2
            obtain ⟨hH2, hblk2⟩ := hAt2.holds HH.out (s1.trans hds) hblk
            have HA2 := Lib.hid hAt2
            clear hAt2 HC
            go_cut [11, 12] from 19 (fun s11 s12 wc => s11 = .int .i64 R.pivot ∧ s12 = .int .i64 (hintCode R.hint) ∧ At encU w blk off R.d2 wc)
            case first =>
              by_cases hh : R.c.2 = .decreasing
              · have hcode : hintCode R.c.2 = 2 := by rw [hh]; rfl
                have hd := rd_dec (show (rd ltInt dk a' b' lim wb wp).c.2 = .decreasing by rw [← HR.out]; exact hh)
                rw [← HR.out] at hd
                obtain ⟨e2, epv, eht⟩ := hd
                have HC := Lib.hid (reverse_u blk off cap d.size a' b' R.d1 w2 (s1.trans hds) hH2 hab' hb' hsz)
                have HE := Lib.hid (And.intro e2 (And.intro epv eht))
                clear e2 epv eht
                go_wp2_with (go_at_call 66; refine HC.out.mono ?_; rintro e w3 ⟨rfl, hw3⟩)
                go_meet
                case rel =>
                  refine ⟨?_, by rw [HE.out.2.2]; rfl, by rw [HE.out.1]; exact HA2.out.step hblk (by rw [← HE.out.1, s2, s1]) (Lies.one hw3)⟩
                  rw [HE.out.2.1]
                  congr 1
                  omega
              · have hcode : ¬ (hintCode R.c.2 = 2) := fun h => hh (hintCode_two h)
                have hd := rd_not (show (rd ltInt dk a' b' lim wb wp).c.2 ≠ .decreasing by rw [← HR.out]; exact hh)
                rw [← HR.out] at hd
                obtain ⟨e2, epv, eht⟩ := hd
                have HE := Lib.hid (And.intro e2 (And.intro epv eht))
                clear e2 epv eht
                go_wp2_with fail
                go_meet
                case rel => exact ⟨by rw [HE.out.2.1], by rw [HE.out.2.2], by rw [HE.out.1]; exact HA2.out⟩
            case rest =>
              obtain ⟨rfl, rfl, hAt3⟩ := hcut
              obtain ⟨hH3, hblk3⟩ := hAt3.holds HH.out (s2.trans hds) hblk
              have HA3 := Lib.hid hAt3
              clear hAt3 hH2 HA2
              go_upto_region 15 with fail
              go_cut [12, 68] from 19 (fun s12 s68 wx => s12 = .int .i64 (hintCode R.hint) ∧ s68 = .bool (wb && wp && decide (R.hint = .increasing)) ∧ wx = wc)
              case first =>
                obtain ⟨ht, hht⟩ : ∃ ht, ht = R.hint := ⟨_, rfl⟩
                rw [← hht]
                have HT := Lib.hid hht
                clear hht
                cases wb <;> cases wp <;> cases ht <;>
                  (simp only [hintCode]
                   go_wp2_with fail
                   go_meet
                   exact ⟨by rw [← HT.out]; rfl, by rw [← HT.out]; rfl, rfl⟩)
              case rest =>
                obtain ⟨rfl, rfl, rfl⟩ := hcut
                go_upto_if 68 with fail
                go_cut [] from 19 (fun wx => R.pi.2 = false ∧ At encU w blk off R.pi.1 wx)
                case first =>
                  cases h68 : (wb && wp && decide (R.hint = .increasing))
                  · have epi := rd_pi_no (d := dk) (a := a') (b := b') (limit := lim) (wb := wb) (wp := wp) (lt := ltInt) (by rw [← HR.out]; exact h68)
                    rw [← HR.out] at epi
                    have HE := Lib.hid epi
                    clear epi
                    go_wp2_with fail
                    go_meet
                    case rel => exact ⟨by rw [HE.out], by rw [HE.out]; exact HA3.out⟩
                  · have epi := rd_pi_yes (d := dk) (a := a') (b := b') (limit := lim) (wb := wb) (wp := wp) (lt := ltInt) (by rw [← HR.out]; exact h68)
                    rw [← HR.out] at epi
                    have hc19 := partial_u blk off cap d.size a' b' R.d2 wc (s2.trans hds) hH3 (by omega) hb' hsz
                    rw [← epi] at hc19
                    have HC := Lib.hid hc19
                    clear epi hc19
                    obtain ⟨pa, pb, hpi⟩ : ∃ pa pb, R.pi = (pa, pb) := ⟨_, _, rfl⟩
                    rw [hpi] at HC s3
                    cases pb
                    · have HP := Lib.hid hpi
                      clear hpi
                      go_wp2_with (go_at_call 67; refine HC.out.mono ?_; rintro e w4 ⟨rfl, hw4⟩)
                      go_meet
                      exact ⟨by rw [HP.out], by rw [HP.out]; exact HA3.out.step hblk (by rw [s2]; exact s3) (Lies.one hw4)⟩
                    · have HP := Lib.hid hpi
                      clear hpi
                      go_wp2_with (go_at_call 67; refine HC.out.mono ?_; rintro e w4 ⟨rfl, hw4⟩)
                      (try simp only [Exit.inBlock, Exit.then]); refine bodyPost_ret (results_none rfl _ _ _) rfl ?_
                      refine ⟨rfl, ?_⟩
                      rw [← HQ.out, pdq_done h12 hl0 (by rw [← HR.out, HP.out]), ← HR.out, HP.out]
                      exact HA3.out.step hblk (by rw [s2]; exact s3) (Lies.one hw4)
                case rest =>
                  obtain ⟨hp2, hAt5⟩ := hcut
                  obtain ⟨d3, hd3⟩ : ∃ d3, d3 = R.pi.1 := ⟨_, rfl⟩
                  rw [← hd3] at hAt5 s3 HB3
                  obtain ⟨G, hG, hcw, hfw⟩ := at_cells hAt5 HH.out (s3.trans hds) hblk
                  have HG := Lib.hid hG
                  have HA5 := Lib.hid hAt5
                  have HP2 := Lib.hid hp2
                  have HD3 := Lib.hid hd3
                  clear hG hAt5 hp2 hd3 hH3 HA3
                  go_upto_region 17 with fail
                  go_cut [87] from 19 (fun s87 wx => s87 = .bool (decide (a' > 0) && !ltInt d3[a' - 1]! d3[R.pivot]!) ∧ At encU w blk off d3 wx)
                  case first =>
                    rcases Nat.eq_zero_or_pos a' with ha0 | ha0
                    · have ha0z : decide ((a' : Int) > 0) = false := decide_eq_false (by omega)
                      go_big_quiet (first | (go_at_call 68; refine Calls.quiet_of_same (less_u _ _ _)))
                      go_wp2_with fail
                      go_meet
                      case rel => exact ⟨by simp [ha0], HA5.out.ahead nq⟩
                    · have ha0z : (a' : Int) > 0 := by omega
                      go_big_quiet (first | (go_at_call 68; refine Calls.quiet_of_same (less_u _ _ _)))
                      go_wp2_with fail
                      go_meet
                      case rel => exact ⟨by rw [← HG.out, ← HG.out]; simp [ha0], HA5.out.ahead nq⟩
                  case rest =>
                    obtain ⟨rfl, hAt6⟩ := hcut
                    obtain ⟨hH6, hblk6⟩ := hAt6.holds HH.out (s3.trans hds) hblk
                    have HA6 := Lib.hid hAt6
                    clear hcw hfw hAt6
                    cases h87 : (decide (a' > 0) && !ltInt d3[a' - 1]! d3[R.pivot]!)
                    · obtain ⟨mid, ap, d4, hx⟩ : ∃ mid ap d4, partition ltInt d3 a' b' R.pivot = (mid, ap, d4) := ⟨_, _, _, rfl⟩
                      obtain ⟨r1, r2, r3, r4, r5, r6, r7⟩ := round_part swo (partition_holds _) hpv.1 hpv.2 (show b' ≤ d3.size by omega) HB3.out hx
                      have hc22 := part_u blk off cap d.size a' b' R.pivot d3 wc (s3.trans hds) hH6 hpv.1 hpv.2 hb' hsz
                      rw [hx] at hc22
                      have HC := Lib.hid hc22
                      have h87' : (decide (a' > 0) && !ltInt (rd ltInt dk a' b' lim wb wp).pi.1[a' - 1]! (rd ltInt dk a' b' lim wb wp).pi.1[(rd ltInt dk a' b' lim wb wp).pivot]!) = false := by rw [← HR.out, ← HD3.out]; exact h87
                      have hx' : partition ltInt (rd ltInt dk a' b' lim wb wp).pi.1 a' b' (rd ltInt dk a' b' lim wb wp).pivot = (mid, ap, d4) := by rw [← HR.out, ← HD3.out]; exact hx
                      have hp2' : (rd ltInt dk a' b' lim wb wp).pi.2 = false := by rw [← HR.out]; exact HP2.out
                      have HL := Lib.hid (fun (h4 : mid - a' < b' - mid) => pdq_left h12 hl0 hp2' h87' (by rw [hx']; exact ⟨r1, r2⟩) (by rw [hx']; exact h4))
                      have HRt := Lib.hid (fun (h4 : ¬ mid - a' < b' - mid) => pdq_right h12 hl0 hp2' h87' (by rw [hx']; exact ⟨r1, r2⟩) (by rw [hx']; exact h4))
                      rw [← HR.out] at HL HRt
                      rw [← HD3.out, hx] at HL HRt
                      dsimp only at HL HRt
                      have HR4 := Lib.hid r4
                      have HR5 := Lib.hid r5
                      have HR6 := Lib.hid r6
                      have HR7 := Lib.hid r7
                      clear hx hc22 h87' hx' hp2' r4 r5 r6 r7 hH6
                      go_upto_if 113 with (go_at_call 70; refine HC.out.mono ?_; rintro e w7 ⟨rfl, hw7⟩)
                      have hAt7 := HA6.out.step hblk r3 (Lies.one hw7)
                      obtain ⟨hH7, hblk7⟩ := hAt7.holds HH.out (r3.trans (s3.trans hds)) hblk
                      have HA7 := Lib.hid hAt7
                      clear hAt7 hw7 HC
                      by_cases h4 : mid - a' < b' - mid
                      · have h4z : (mid : Int) - (a' : Int) < (b' : Int) - (mid : Int) := by omega
                        have HI := Lib.hid (ih blk off cap d.size a' mid R.lim d4 w7 (by omega) (r3.trans (s3.trans hds)) hH7 hblk7 (by omega) (by omega) hsz (by omega) HR4.out)
                        obtain ⟨pL, sL⟩ := pdq_sorts _ swo d4 a' mid R.lim true true (by omega) (by omega) HR4.out
                        have HPL := Lib.hid (And.intro pL sL)
                        clear pL sL
                        go_wp2_with (go_at_call 53; refine HI.out.mono ?_; rintro e w8 ⟨rfl, hw8⟩)
                        go_roundg (b' - (mid + 1))
                        case measure => omega
                        case rel =>
                          refine ⟨mid + 1, b', R.lim, decide (mid - a' ≥ (b' - a') / 8), ap, pdq ltInt d4 a' mid R.lim true true, by simp, rfl, rfl, congrArg Value.bool (eighth (by omega) (by omega)), rfl, by omega, by omega, Nat.le_refl _, by omega, by omega, HPL.out.1.1.trans (r3.trans (s3.trans hds)), (HR6.out _ HPL.out.1 HPL.out.2).1, ?_, ?_⟩
                          · exact atTrans HA7.out hw8 hblk (HPL.out.1.1)
                          · rw [← HQ.out]; exact (HL.out h4).symm
                      · have h4z : ¬ ((mid : Int) - (a' : Int) < (b' : Int) - (mid : Int)) := by omega
                        have HI := Lib.hid (ih blk off cap d.size (mid + 1) b' R.lim d4 w7 (by omega) (r3.trans (s3.trans hds)) hH7 hblk7 (by omega) hb' hsz (by omega) HR5.out)
                        obtain ⟨pL, sL⟩ := pdq_sorts _ swo d4 (mid + 1) b' R.lim true true (by omega) (by omega) HR5.out
                        have HPL := Lib.hid (And.intro pL sL)
                        clear pL sL
                        go_wp2_with (go_at_call 53; refine HI.out.mono ?_; rintro e w8 ⟨rfl, hw8⟩)
                        go_roundg (mid - a')
                        case measure => omega
                        case rel =>
                          refine ⟨a', mid, R.lim, decide (b' - mid ≥ (b' - a') / 8), ap, pdq ltInt d4 (mid + 1) b' R.lim true true, rfl, rfl, rfl, congrArg Value.bool (eighth (by omega) (by omega)), rfl, by omega, by omega, Nat.le_refl _, by omega, by omega, HPL.out.1.1.trans (r3.trans (s3.trans hds)), (HR7.out _ HPL.out.1 HPL.out.2).1, ?_, ?_⟩
                          · exact atTrans HA7.out hw8 hblk (HPL.out.1.1)
                          · rw [← HQ.out]; exact (HRt.out h4).symm
                    · have h87' := h87
                      simp only [Bool.and_eq_true, decide_eq_true_eq, Bool.not_eq_true'] at h87'
                      obtain ⟨mid, d4, hx⟩ : ∃ mid d4, partitionEqual ltInt d3 a' b' R.pivot = (mid, d4) := ⟨_, _, rfl⟩
                      obtain ⟨r1, r2, r3, r4, _⟩ := round_eq swo (partitionEqual_holds _) h87'.1 hpv.1 hpv.2 (show b' ≤ d3.size by omega) HB3.out h87'.2 hx
                      have hc21 := partEqual_u blk off cap d.size a' b' R.pivot d3 wc (s3.trans hds) hH6 hpv.1 hpv.2 hb' hsz
                      rw [hx] at hc21
                      have HC := Lib.hid hc21
                      have h87'' : (decide (a' > 0) && !ltInt (rd ltInt dk a' b' lim wb wp).pi.1[a' - 1]! (rd ltInt dk a' b' lim wb wp).pi.1[(rd ltInt dk a' b' lim wb wp).pivot]!) = true := by rw [← HR.out, ← HD3.out]; exact h87
                      have hx' : partitionEqual ltInt (rd ltInt dk a' b' lim wb wp).pi.1 a' b' (rd ltInt dk a' b' lim wb wp).pivot = (mid, d4) := by rw [← HR.out, ← HD3.out]; exact hx
                      have hp2' : (rd ltInt dk a' b' lim wb wp).pi.2 = false := by rw [← HR.out]; exact HP2.out
                      have he := pdq_eq h12 hl0 hp2' h87'' (by rw [hx']; exact ⟨r1, r2⟩)
                      rw [← HR.out] at he
                      rw [← HD3.out, hx] at he
                      have HE := Lib.hid he
                      have HR4 := Lib.hid r4
                      clear hx hc21 h87'' hx' hp2' he r4 hH6 h87'
                      go_wp2_with (go_at_call 69; refine HC.out.mono ?_; rintro e w7 ⟨rfl, hw7⟩)
                      go_roundg (b' - mid)
                      case measure => omega
                      case rel =>
                        exact ⟨mid, b', R.lim, wb, wp, d4, rfl, rfl, rfl, rfl, rfl, r2, hb', Nat.le_refl _, by omega, by omega, r3.trans (s3.trans hds), HR4.out, HA6.out.step hblk r3 (Lies.one hw7), by rw [← HQ.out]; exact HE.out.symm⟩

end Go.Proofs.Ytjpbniajhkindaa

namespace Go.Proofs.Ytjpbniajhkindaa
open Go.RowKit Go.Sort

theorem sort_u (blk off cap : Nat) (zs : List Int) (w : World) (hH : Holds encU w blk off zs.toArray) (hblk : blk < w.heap.size) (hsz : zs.length < 4611686018427387904) :
    Calls Try.prog 40 #[.slice (some ⟨blk, off, none⟩) zs.length cap] w fun e w' =>
      e = .returned (.tuple #[]) ∧ ∃ n os, w' = grow (putRow encU (Sort.ahead w n) blk off (zs.mergeSort fun x y => decide (x ≤ y)).toArray) os := by
  have hLen : ∀ w, Calls Try.prog 54 #[.int .u64 (zs.length : Int)] w fun e w' => e = .returned (.int .i64 (bitsLen zs.length : Nat)) ∧ w' = w := fun w => by
    have h := Try.bits_Len (zs.length : Int) w (by omega) (by omega)
    rwa [Int.toNat_natCast, bitLen_eq _ (by omega)] at h
  have hk : bitsLen zs.length ≤ 62 := (bitsLen_le_iff zs.length 62).2 (by omega)
  have hp := pdq_u (zs.length + 1) blk off cap zs.length 0 zs.length (bitsLen zs.length) zs.toArray w (by omega) (by simp) hH hblk (Nat.zero_le _) (Nat.le_refl _) hsz (by omega) (.inl rfl)
  have he : (pdq ltInt zs.toArray 0 zs.length (bitsLen zs.length) true true) = (zs.mergeSort fun x y => decide (x ≤ y)).toArray := by
    have h := sortInt zs
    have e : Sort.sort ltInt zs.toArray = pdq ltInt zs.toArray 0 zs.length (bitsLen zs.length) true true := by simp [Sort.sort]
    rw [← e, ← h]
  rw [he] at hp
  have HP := Lib.hid hp
  have HL := Lib.hid hLen
  clear hp hLen hH
  go_enter Try.func40, Try.ntmps40
  go_wp2_with fail
  refine (HL.out _).mono ?_
  rintro e w1 ⟨rfl, rfl⟩
  go_wp2_with fail
  refine HP.out.mono ?_
  rintro e w2 ⟨rfl, n, os, hw⟩
  go_wp2
  go_end0
  exact ⟨rfl, n, os, rfl⟩

theorem insertion_none (x : Option Addr) (cap : Nat) (w : World) :
    Calls Try.prog 62 #[.slice x 0 cap, .int .i64 0, .int .i64 0] w fun e w' => e = .returned (.tuple #[]) ∧ w' = w := by
  go_enter Try.func62, Try.ntmps62
  go_wp2
  go_loopw [6] (fun vi wr => vi = .int .i64 1 ∧ wr = w) (fun _ _ => 0)
  case atStart => exact ⟨rfl, rfl⟩
  case round =>
    obtain ⟨rfl, rfl⟩ := hrel
    go_wp2
    go_end0
    exact ⟨rfl, rfl⟩

theorem pdq_none (x : Option Addr) (cap : Nat) (w : World) :
    Calls Try.prog 53 #[.slice x 0 cap, .int .i64 0, .int .i64 0, .int .i64 0] w fun e w' => e = .returned (.tuple #[]) ∧ w' = w := by
  go_enter Try.func53, Try.ntmps53
  go_wp2
  go_loopw [1, 2, 3, 8, 9] (fun s1 s2 s3 s8 s9 wr => s1 = .int .i64 0 ∧ s2 = .int .i64 0 ∧ s3 = .int .i64 0 ∧ s8 = .bool true ∧ s9 = .bool true ∧ wr = w) (fun _ _ _ _ _ _ => 0)
  case atStart => exact ⟨rfl, rfl, rfl, rfl, rfl, rfl⟩
  case round =>
    obtain ⟨rfl, rfl, rfl, rfl, rfl, rfl⟩ := hrel
    go_wp2_with (go_at_call 62; refine (insertion_none _ _ _).mono ?_; rintro e w1 ⟨rfl, rfl⟩)
    (try simp only [Exit.inBlock, Exit.then]); refine bodyPost_ret (results_none rfl _ _ _) rfl ?_
    exact ⟨rfl, rfl⟩

theorem sort_none (x : Option Addr) (cap : Nat) (w : World) :
    Calls Try.prog 40 #[.slice x 0 cap] w fun e w' => e = .returned (.tuple #[]) ∧ w' = w := by
  have h : Calls Try.prog 54 #[.int .u64 0] w fun e w' => e = .returned (.int .i64 0) ∧ w' = w := Try.bits_Len 0 w (by omega) (by omega)
  have HL := Lib.hid h
  clear h
  go_enter Try.func40, Try.ntmps40
  go_wp2_with fail
  refine HL.out.mono ?_
  rintro e w1 ⟨rfl, rfl⟩
  go_wp2_with fail
  refine (pdq_none _ _ _).mono ?_
  rintro e w1 ⟨rfl, rfl⟩
  go_wp2
  go_end0
  exact ⟨rfl, rfl⟩

theorem holds_own {w : World} {g : Nat} {cur : Array Value} {e : TypeId} {ss : List Int} (hb : w.heap[g]? = some (.cells cur e (0, 0))) (ht : cur.toList.take ss.length = ss.map encU) : Holds encU w g 0 ss.toArray := by
  intro j hj
  have hj' : j < ss.length := by simpa using hj
  refine ⟨?_, by simp [World.frozen?, hb]⟩
  have h1 : (cur.toList.take ss.length)[j]? = (ss.map encU)[j]? := by rw [ht]
  rw [List.getElem?_take_of_lt hj'] at h1
  simp only [World.cell?, hb, Nat.zero_add]
  simp only [Option.isSome_none, Bool.false_eq_true, if_false]
  rw [← Array.getElem?_toList, h1]
  simp [hj']

theorem heap_put_row {w : World} {g n : Nat} {os : Array Obj} {cur : Array Value} {e : TypeId} {fr : Nat × Nat} (d : Array Int) (hb : w.heap[g]? = some (.cells cur e fr)) :
    (grow (putRow encU (Sort.ahead w n) g 0 d) os).heap[g]? = some (.cells (putCells encU 0 d cur) e fr) := by
  have hg : g < w.heap.size := (Array.getElem?_eq_some_iff.1 hb).1
  rw [heap_grow_old _ _ (by simpa using hg)]
  simp [putRow, mapBlock, Sort.ahead, Array.getElem?_modify, hb, onCells]

theorem grown_put_row {w : World} {g n : Nat} {os : Array Obj} (d : Array Int) : w.grownBy (grow (putRow encU (Sort.ahead w n) g 0 d) os) (some g) := by
  refine ⟨rfl, rfl, rfl, by simp, fun k hk hne => ?_⟩
  rw [heap_grow_old _ _ (by simpa using hk)]
  have : g ≠ k := fun e => hne (by rw [e])
  simp [putRow, mapBlock, Sort.ahead, Array.getElem?_modify, this]

theorem take_put (cur : Array Value) (ts : List Int) (h : ts.length ≤ cur.size) : (putCells encU 0 ts.toArray cur).toList.take ts.length = ts.map encU := by
  apply List.ext_getElem?
  intro k
  by_cases hk : k < ts.length
  · rw [List.getElem?_take_of_lt hk, Array.getElem?_toList]
    simp [putCells, show k < cur.size by omega, hk]
  · rw [List.getElem?_eq_none (by simp; omega), List.getElem?_eq_none (by simp; omega)]

/-- slices.Sort of a row of the caller's own: it is sorted then -/
theorem sort_own {w : World} {B : Nat} {v : Value} {ss : List Int} (h : w.ownsRow B 31 1 v ss.length (ss.map encU)) (hsz : ss.length < 1000000000) :
    Calls Try.prog 40 #[v] w fun e w' => e = .returned (.tuple #[]) ∧
      w'.ownsRow B 31 1 v ss.length ((ss.mergeSort fun x y => decide (x ≤ y)).map encU) ∧ w.grownBy w' v.ownBlock := by
  rcases h.2 with ⟨rfl, h0⟩ | ⟨g, cap, cur, rfl, hB, hg, r1, r2, r3, r4⟩
  · obtain rfl : ss = [] := List.eq_nil_of_length_eq_zero (by simpa using h0)
    refine (sort_none none 0 w).mono ?_
    rintro e w' ⟨rfl, rfl⟩
    exact ⟨rfl, by simpa using h, World.grownBy.refl _ _⟩
  · have hlt : g < w.heap.size := (Array.getElem?_eq_some_iff.1 hg).1
    refine (sort_u g 0 cap ss w (holds_own hg (by simpa using r4)) hlt (by omega)).mono ?_
    rintro e w' ⟨rfl, n, os, rfl⟩
    have hl : (ss.mergeSort fun x y => decide (x ≤ y)).length = ss.length := List.length_mergeSort _
    refine ⟨rfl, ⟨by simp [hl], .inr ⟨g, cap, _, rfl, hB, heap_put_row _ hg, r1, r2, by simp [putCells, r3], ?_⟩⟩, grown_put_row _⟩
    rw [Nat.mul_one, ← hl]
    exact take_put cur _ (by rw [hl]; omega)

end Go.Proofs.Ytjpbniajhkindaa
