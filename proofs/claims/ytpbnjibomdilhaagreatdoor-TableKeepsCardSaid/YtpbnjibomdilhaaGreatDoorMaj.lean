/- slices.Sort at []uint64, fifth part: the pivot is chosen, by contracts. slices.Sort at []uint64, sixth part: patterns are broken, by contracts. -/
import Derived.Test.YtpbnjibomdilhaaGreatDoorMai
import Derived.Sort.Walk11
import Derived.Test.YtpbnjibomdilhaaGreatDoorShelf
import Derived.Sort.Walk7
namespace Go.Proofs.YtpbnjibomdilhaaGreatDoor.Gph
open Go.RowKit Go.Sort

/-- a counter in a block of its own beside a row that is only read: the world by the draws made and the count -/
structure Cnt (w : World) (blk off : Nat) (d : Array Int) (sb : Nat) (Wc : Nat → Nat → World) : Prop where
  cell : ∀ N S t, t < d.size → (Wc N S).cell? ⟨blk, off + t, none⟩ = some (.int .u64 d[t]!)
  cnt : ∀ N S : Nat, (Wc N S).cell? ⟨sb, 0, none⟩ = some (.int .i64 (S : Int))
  melt : ∀ N S, (Wc N S).frozen? ⟨sb, 0, none⟩ = false
  put : ∀ N S T : Nat, (Wc N S).setCell ⟨sb, 0, none⟩ (.int .i64 (T : Int)) = Wc N T
  drew : ∀ N S q, (Wc N S).drewN q = Wc (N + q) S
  grown : ∀ N S, ∃ os, Wc N S = grow (Sort.ahead w N) os

theorem Cnt.make {w : World} {blk off : Nat} {d : Array Int} (hH : Holds encU w blk off d) (hblk : blk < w.heap.size) :
    ∃ Wc, w.alloc (.cells #[.int .i64 0] 3) = Wc 0 0 ∧ Cnt w blk off d w.heap.size Wc := by
  have hne : w.heap.size ≠ blk := by omega
  have hH0 : Holds encU (w.alloc (.cells #[.int .i64 0] 3)) blk off d := by rw [alloc_eq_grow]; exact holds_grow _ _ _ _ _ _ hblk hH
  have hS0 : Holds (Value.int .i64) (w.alloc (.cells #[.int .i64 0] 3)) w.heap.size 0 (one 0) := fun j hj => by
    obtain rfl : j = 0 := by simpa using hj
    simp
  refine ⟨fun N S => putRow (Value.int .i64) (Sort.ahead (w.alloc (.cells #[.int .i64 0] 3)) N) w.heap.size 0 (one S), (putRow_self _ _ _ _ _ hS0).symm, fun N S t ht => ?_, fun N S => ?_, fun N S => ?_, fun N S T => ?_, fun N S q => putRow_drewN _ _ _ _ _ _ _, fun N S => ?_⟩
  · rw [cell?_putRow_other _ _ _ _ _ _ (Or.inl (Ne.symm hne))]; exact (hH0 t ht).1
  · exact (one_cell (holds_one (n := N) (t := S) hS0)).1
  · exact (one_cell (holds_one (n := N) (t := S) hS0)).2
  · have h := one_set (holds_one (n := N) (t := S) hS0) T
    rw [h]
    exact putRow_putRow _ _ _ _ _ _ rfl
  · rw [alloc_eq_grow, ahead_grow]
    obtain ⟨os, _, h⟩ := putRow_grow_new (Value.int .i64) (Sort.ahead w N) #[.cells #[.int .i64 0] 3] w.heap.size 0 (one S) (Nat.le_refl _)
    exact ⟨os, h⟩

section
variable {w : World} {blk off sb : Nat} {d : Array Int} {Wc : Nat → Nat → World}
set_option maxHeartbeats 1000000 in
theorem order2_u (hC : Cnt w blk off d sb Wc) (len cap a b s N : Nat) (hlen : d.size = len) (ha : a < d.size) (hb : b < d.size) (hs : s < 4611686018427387904) :
    Calls Tryz.prog 107 #[.slice (some ⟨blk, off, none⟩) len cap, .int .i64 a, .int .i64 b, .pointer (some ⟨sb, 0, none⟩)] (Wc N s) fun e w' =>
      e = .returned (.tuple #[.int .i64 (order2 ltInt d a b s).1, .int .i64 (order2 ltInt d a b s).2.1]) ∧ ∃ N', w' = Wc N' (order2 ltInt d a b s).2.2 := by
  subst hlen
  obtain ⟨G, hG⟩ : ∃ G : Nat → Int, ∀ t, G t = d[t]! := ⟨fun t => d[t]!, fun _ => rfl⟩
  have hcw : ∀ t, t < d.size → (Wc N s).cell? ⟨blk, off + t, none⟩ = some (.int .u64 (G t)) := fun t ht => by rw [hG]; exact hC.cell N s t ht
  have HG := Lib.hid hG
  have HC := Lib.hid hC
  have hE := Lib.hid (show order2 ltInt d a b s = if ltInt d[b]! d[a]! then (b, a, s + 1) else (a, b, s) from rfl)
  obtain ⟨W, hW⟩ : ∃ W, W = Wc N s := ⟨_, rfl⟩
  rw [← hW] at hcw ⊢
  have HW := Lib.hid hW
  clear hC hG hW
  go_enter Tryz.func107, Tryz.ntmps107
  go_wp2
  go_big_quiet (first | (go_at_call 78; refine Calls.quiet_of_same (less_u _ _ _)))
  have hcnt : (W.drewN nq).cell? ⟨sb, 0, none⟩ = some (.int .i64 (s : Int)) := by rw [HW.out, HC.out.drew]; exact HC.out.cnt _ _
  have hml : (W.drewN nq).frozen? ⟨sb, 0, none⟩ = false := by rw [HW.out, HC.out.drew]; exact HC.out.melt _ _
  go_wp2
  · have hl : ltInt (G b) (G a) = true := by assumption
    go_ret2
    rw [hE.out, if_pos (by rw [← HG.out, ← HG.out]; exact hl)]
    refine ⟨rfl, N + nq, ?_⟩
    have e := HC.out.put (N + nq) s (s + 1)
    rw [← e, ← HC.out.drew, ← HW.out]
    rfl
  · have hl : ltInt (G b) (G a) = false := by assumption
    go_ret2
    rw [hE.out, if_neg (by rw [← HG.out, ← HG.out, hl]; simp)]
    exact ⟨rfl, N + nq, by rw [HW.out]; exact HC.out.drew _ _ _⟩

set_option maxHeartbeats 1000000 in
theorem median_u (hC : Cnt w blk off d sb Wc) (len cap a b c s N : Nat) (hlen : d.size = len) (ha : a < d.size) (hb : b < d.size) (hc : c < d.size) (hs : s + 3 < 4611686018427387904) :
    Calls Tryz.prog 94 #[.slice (some ⟨blk, off, none⟩) len cap, .int .i64 a, .int .i64 b, .int .i64 c, .pointer (some ⟨sb, 0, none⟩)] (Wc N s) fun e w' =>
      e = .returned (.int .i64 (median ltInt d a b c s).1) ∧ ∃ N', w' = Wc N' (median ltInt d a b c s).2 := by
  obtain ⟨r1, hr1⟩ : ∃ r, r = order2 ltInt d a b s := ⟨_, rfl⟩
  obtain ⟨r2, hr2⟩ : ∃ r, r = order2 ltInt d r1.2.1 c r1.2.2 := ⟨_, rfl⟩
  obtain ⟨r3, hr3⟩ : ∃ r, r = order2 ltInt d r1.1 r2.1 r2.2.2 := ⟨_, rfl⟩
  have l1 := order2_lt d s ha hb
  have s1 := order2_swaps d a b s
  rw [← hr1] at l1 s1
  have l2 := order2_lt d r1.2.2 l1.2 hc
  have s2 := order2_swaps d r1.2.1 c r1.2.2
  rw [← hr2] at l2 s2
  have HM := Lib.hid (show median ltInt d a b c s = (r3.2.1, r3.2.2) by rw [hr3, hr2, hr1]; rfl)
  have c1 := fun N => order2_u hC len cap a b s N hlen ha hb (by omega)
  have c2 := fun N => order2_u hC len cap r1.2.1 c r1.2.2 N hlen l1.2 hc (by omega)
  have c3 := fun N => order2_u hC len cap r1.1 r2.1 r2.2.2 N hlen l1.1 l2.1 (by omega)
  rw [← hr1] at c1
  rw [← hr2] at c2
  rw [← hr3] at c3
  have C1 := Lib.hid c1
  have C2 := Lib.hid c2
  have C3 := Lib.hid c3
  clear hC c1 c2 c3 hr1 hr2 hr3
  go_enter Tryz.func94, Tryz.ntmps94
  go_wp2_with fail
  refine (C1.out _).mono ?_
  rintro e w' ⟨rfl, n1, rfl⟩
  go_wp2_with fail
  refine (C2.out _).mono ?_
  rintro e w' ⟨rfl, n2, rfl⟩
  go_wp2_with fail
  refine (C3.out _).mono ?_
  rintro e w' ⟨rfl, n3, rfl⟩
  go_wp2_with fail
  go_ret
  rw [HM.out]
  exact ⟨rfl, n3, rfl⟩

theorem medianAdjacent_u (hC : Cnt w blk off d sb Wc) (len cap a s N : Nat) (hlen : d.size = len) (ha0 : 1 ≤ a) (ha : a + 1 < d.size) (hsz : d.size < 4611686018427387904) (hs : s + 3 < 4611686018427387904) :
    Calls Tryz.prog 93 #[.slice (some ⟨blk, off, none⟩) len cap, .int .i64 a, .pointer (some ⟨sb, 0, none⟩)] (Wc N s) fun e w' =>
      e = .returned (.int .i64 (medianAdjacent ltInt d a s).1) ∧ ∃ N', w' = Wc N' (medianAdjacent ltInt d a s).2 := by
  have hc := median_u hC len cap (a - 1) a (a + 1) s N hlen (by omega) (by omega) ha hs
  rw [show ((a - 1 : Nat) : Int) = (a : Int) - 1 by omega, show ((a + 1 : Nat) : Int) = (a : Int) + 1 by omega] at hc
  have HC := Lib.hid hc
  clear hC hc
  go_enter Tryz.func93, Tryz.ntmps93
  go_wp2_with fail
  refine HC.out.mono ?_
  rintro e w' ⟨rfl, n1, rfl⟩
  go_wp2_with fail
  go_ret
  exact ⟨rfl, n1, rfl⟩
end

/-- the hint's number by the count -/
theorem hint_is (s : Nat) : ∃ H : Int, H = hintCode (hintOf s) ∧ (s = 0 → H = 1) ∧ (s = 12 → H = 2) ∧ (s ≠ 0 → s ≠ 12 → H = 0) :=
  ⟨_, rfl, fun h => by rw [h]; rfl, fun h => by rw [h]; rfl, fun h1 h2 => by unfold hintOf; rw [if_neg h1, if_neg h2]; rfl⟩

set_option maxRecDepth 100000 in
set_option maxHeartbeats 2000000 in
theorem pivot_u (blk off cap len a b : Nat) (d : Array Int) (w : World) (hlen : d.size = len) (hH : Holds encU w blk off d) (hblk : blk < w.heap.size) (hab : a < b) (hb : b ≤ len) (hsz : len < 4611686018427387904) :
    Calls Tryz.prog 75 #[.slice (some ⟨blk, off, none⟩) len cap, .int .i64 a, .int .i64 b] w fun e w' =>
      e = .returned (.tuple #[.int .i64 (choosePivot ltInt d a b).1, .int .i64 (hintCode (choosePivot ltInt d a b).2)]) ∧ ∃ n os, w' = grow (Sort.ahead w n) os := by
  obtain ⟨Wc, hW0, hC⟩ := Cnt.make hH hblk
  clear hH
  rw [choosePivot_eq]
  obtain ⟨I, hI⟩ : ∃ I : Nat, I = a + (b - a) / 4 * 1 := ⟨_, rfl⟩
  obtain ⟨J, hJ⟩ : ∃ J : Nat, J = a + (b - a) / 4 * 2 := ⟨_, rfl⟩
  obtain ⟨K, hK⟩ : ∃ K : Nat, K = a + (b - a) / 4 * 3 := ⟨_, rfl⟩
  have eI : ((a : Int) + ((b : Int) - (a : Int)) / 4) = (I : Int) := by omega
  have eJ : ((a : Int) + ((b : Int) - (a : Int)) / 4 * 2) = (J : Int) := by omega
  have eK : ((a : Int) + ((b : Int) - (a : Int)) / 4 * 3) = (K : Int) := by omega
  obtain ⟨p, s, hraw⟩ : ∃ p s, rawPivot ltInt d a b = (p, s) := ⟨_, _, rfl⟩
  obtain ⟨Hc, hHc, hh0, hh12, hhx⟩ := hint_is s
  have HE := Lib.hid (show (fun e w' => e = Ending.returned (.tuple #[.int .i64 (rawPivot ltInt d a b).1, .int .i64 (hintCode (hintOf (rawPivot ltInt d a b).2))]) ∧ ∃ n os, w' = grow (Sort.ahead w n) os) = (fun (e : Ending) (w' : World) => e = .returned (.tuple #[.int .i64 (p : Int), .int .i64 Hc]) ∧ ∃ n os, w' = grow (Sort.ahead w n) os) by rw [hraw, hHc])
  refine Calls.mono ?_ (fun e w' h => (show _ from by have := congrFun (congrFun HE.out e) w'; exact this.mpr h))
  by_cases h8 : b - a ≥ 8
  · by_cases h50 : b - a ≥ 50
    · obtain ⟨i1, s1, h1⟩ : ∃ i1 s1, medianAdjacent ltInt d I 0 = (i1, s1) := ⟨_, _, rfl⟩
      obtain ⟨j1, s2, h2⟩ : ∃ j1 s2, medianAdjacent ltInt d J s1 = (j1, s2) := ⟨_, _, rfl⟩
      obtain ⟨k1, s3, h3⟩ : ∃ k1 s3, medianAdjacent ltInt d K s2 = (k1, s3) := ⟨_, _, rfl⟩
      have h4 : median ltInt d i1 j1 k1 s3 = (p, s) := by
        rw [← hraw]; simp only [rawPivot, if_pos h8, if_pos h50, ← hI, ← hJ, ← hK, h1, h2, h3]
      have m1 := medianAdjacent_mem ltInt d I 0; rw [h1] at m1
      have m2 := medianAdjacent_mem ltInt d J s1; rw [h2] at m2
      have m3 := medianAdjacent_mem ltInt d K s2; rw [h3] at m3
      have n1 := medianAdjacent_count ltInt d I 0; rw [h1] at n1
      have n2 := medianAdjacent_count ltInt d J s1; rw [h2] at n2
      have n3 := medianAdjacent_count ltInt d K s2; rw [h3] at n3
      simp only [] at m1 m2 m3 n1 n2 n3
      have c1 := medianAdjacent_u hC len cap I 0 0 hlen (by omega) (by omega) (by omega) (by omega); rw [h1] at c1
      have c2 := fun N => medianAdjacent_u hC len cap J s1 N hlen (by omega) (by omega) (by omega) (by omega); rw [h2] at c2
      have c3 := fun N => medianAdjacent_u hC len cap K s2 N hlen (by omega) (by omega) (by omega) (by omega); rw [h3] at c3
      have c4 := fun N => median_u hC len cap i1 j1 k1 s3 N hlen (by omega) (by omega) (by omega) (by omega); rw [h4] at c4
      have C1 := Lib.hid c1
      have C2 := Lib.hid c2
      have C3 := Lib.hid c3
      have C4 := Lib.hid c4
      have HC := Lib.hid hC
      have HK := Lib.hid (And.intro hh0 (And.intro hh12 hhx))
      have hcn := hC.cnt
      clear c1 c2 c3 c4 hC h1 h2 h3 h4 m1 m2 m3 n1 n2 n3 hI hJ hK hh0 hh12 hhx hraw HE hHc
      go_enter Tryz.func75, Tryz.ntmps75
      go_wp2_with fail
      refine C1.out.mono ?_
      rintro e w' ⟨rfl, N1, rfl⟩
      go_wp2_with fail
      refine (C2.out _).mono ?_
      rintro e w' ⟨rfl, N2, rfl⟩
      go_wp2_with fail
      refine (C3.out _).mono ?_
      rintro e w' ⟨rfl, N3, rfl⟩
      go_wp2_with fail
      refine (C4.out _).mono ?_
      rintro e w' ⟨rfl, N4, rfl⟩
      have hgr := HC.out.grown N4 s
      by_cases e0 : s = 0
      · have h0 := HK.out.1 e0
        subst e0 h0
        go_wp2
        go_ret2
        exact ⟨rfl, _, hgr⟩
      · have e0z : ((s : Int) == 0) = false := by simp; omega
        by_cases e1 : s = 12
        · have h0 := HK.out.2.1 e1
          subst e1 h0
          go_wp2
          go_ret2
          exact ⟨rfl, _, hgr⟩
        · have h0 := HK.out.2.2 e0 e1
          have e1z : ((s : Int) == 12) = false := by simp; omega
          subst h0
          go_wp2
          go_ret2
          exact ⟨rfl, _, hgr⟩
    · have h4 : median ltInt d I J K 0 = (p, s) := by
        rw [← hraw]; simp only [rawPivot, if_pos h8, if_neg h50, ← hI, ← hJ, ← hK]
      have c4 := median_u hC len cap I J K 0 0 hlen (by omega) (by omega) (by omega) (by omega); rw [h4] at c4
      have C4 := Lib.hid c4
      have HC := Lib.hid hC
      have HK := Lib.hid (And.intro hh0 (And.intro hh12 hhx))
      have hcn := hC.cnt
      clear c4 hC h4 hI hJ hK hh0 hh12 hhx hraw HE hHc
      go_enter Tryz.func75, Tryz.ntmps75
      go_wp2_with fail
      refine C4.out.mono ?_
      rintro e w' ⟨rfl, N4, rfl⟩
      have hgr := HC.out.grown N4 s
      by_cases e0 : s = 0
      · have h0 := HK.out.1 e0
        subst e0 h0
        go_wp2
        go_ret2
        exact ⟨rfl, _, hgr⟩
      · have e0z : ((s : Int) == 0) = false := by simp; omega
        by_cases e1 : s = 12
        · have h0 := HK.out.2.1 e1
          subst e1 h0
          go_wp2
          go_ret2
          exact ⟨rfl, _, hgr⟩
        · have h0 := HK.out.2.2 e0 e1
          have e1z : ((s : Int) == 12) = false := by simp; omega
          subst h0
          go_wp2
          go_ret2
          exact ⟨rfl, _, hgr⟩
  · have h4 : p = J ∧ s = 0 := by
      have : rawPivot ltInt d a b = (J, 0) := by simp only [rawPivot, if_neg h8, ← hJ]
      rw [hraw] at this
      exact ⟨congrArg Prod.fst this, congrArg Prod.snd this⟩
    obtain ⟨rfl, rfl⟩ := h4
    have h0 := hh0 rfl
    subst h0
    have hgr := hC.grown 0 0
    have hcn := hC.cnt
    clear hC hI hJ hK hh0 hh12 hhx hraw HE hHc
    go_enter Tryz.func75, Tryz.ntmps75
    go_wp2
    go_ret2
    exact ⟨rfl, _, hgr⟩

end Go.Proofs.YtpbnjibomdilhaaGreatDoor.Gph

namespace Go.Proofs.YtpbnjibomdilhaaGreatDoor.Gph
open Go.RowKit Go.Sort

theorem xorshift_u (rb X : Nat) (hX : X < 18446744073709551616) (w : World) (hc : w.cell? ⟨rb, 0, none⟩ = some (.int .u64 X)) (hf : w.frozen? ⟨rb, 0, none⟩ = false) :
    Calls Tryz.prog 92 #[.pointer (some ⟨rb, 0, none⟩)] w fun e w' => e = .returned (.int .u64 (xorNextN X : Nat)) ∧ w' = (w.setCell ⟨rb, 0, none⟩ (.int .u64 (xorNextN X : Nat))).drewN 3 := by
  obtain ⟨A, hA⟩ : ∃ A : Nat, A = X ^^^ (X * 8192 % 18446744073709551616) := ⟨_, rfl⟩
  obtain ⟨B, hB⟩ : ∃ B : Nat, B = A ^^^ (A / 128) := ⟨_, rfl⟩
  obtain ⟨C, hC⟩ : ∃ C : Nat, C = B ^^^ (B * 131072 % 18446744073709551616) := ⟨_, rfl⟩
  have lA : A < 18446744073709551616 := by rw [hA]; exact Nat.xor_lt_two_pow (n := 64) (by omega) (by omega)
  have lB : B < 18446744073709551616 := by rw [hB]; exact Nat.xor_lt_two_pow (n := 64) (by omega) (by omega)
  have x1 : bits .xor .u64 (X : Int) (IntKind.u64.wrap ((X : Int) * 8192)) = (A : Int) := by
    rw [IntKind.wrap_u64, show ((X : Int) * 8192 % 18446744073709551616) = ((X * 8192 % 18446744073709551616 : Nat) : Int) by omega, bits_xor_u64_nat _ _ hX (by omega), hA]
  have x2 : bits .xor .u64 (A : Int) ((A : Int) / 128) = (B : Int) := by
    rw [show ((A : Int) / 128) = ((A / 128 : Nat) : Int) by omega, bits_xor_u64_nat _ _ lA (by omega), hB]
  have x3 : bits .xor .u64 (B : Int) (IntKind.u64.wrap ((B : Int) * 131072)) = (C : Int) := by
    rw [IntKind.wrap_u64, show ((B : Int) * 131072 % 18446744073709551616) = ((B * 131072 % 18446744073709551616 : Nat) : Int) by omega, bits_xor_u64_nat _ _ lB (by omega), hC]
  rw [show xorNextN X = C by unfold xorNextN; simp only []; rw [← hA, ← hB, ← hC]]
  have hss : ∀ v v', (w.setCell ⟨rb, 0, none⟩ v).setCell ⟨rb, 0, none⟩ v' = w.setCell ⟨rb, 0, none⟩ v' := setCell_setCell w rb 0
  clear hA hB hC
  go_enter Tryz.func92, Tryz.ntmps92
  go_wp2
  go_region
  all_goals go_wp2
  all_goals go_region
  all_goals go_wp2
  all_goals go_region
  all_goals go_wp2
  go_ret
  exact ⟨rfl, rfl⟩

theorem nextPower_u (n : Nat) (hn : n < 4611686018427387904) (w : World) :
    Calls Tryz.prog 91 #[.int .i64 n] w fun e w' => e = .returned (.int .u64 ((1 <<< bitsLen n : Nat) : Int)) ∧ w' = w := by
  have hLen : ∀ w, Calls Tryz.prog 62 #[.int .u64 (n : Int)] w fun e w' => e = .returned (.int .i64 (bitsLen n : Nat)) ∧ w' = w := fun w => by
    have h := Tryz.bits_Len (n : Int) w (by omega) (by omega)
    rwa [Int.toNat_natCast, bitLen_eq _ (by omega)] at h
  have hk : bitsLen n ≤ 62 := (bitsLen_le_iff n 62).2 (by omega)
  have hp := wrap_two_pow (bitsLen n) hk
  go_enter Tryz.func91, Tryz.ntmps91
  go_wp2_with (go_at_call 62; refine (hLen _).mono ?_; rintro e w' ⟨rfl, rfl⟩)
  go_ret
  exact ⟨rfl, rfl⟩

/-- a generator in a block of its own behind a row: the world by the draws made, the generator's number and the row -/
structure Rnd (w : World) (blk off : Nat) (d : Array Int) (sb : Nat) (Wr : Nat → Nat → Array Int → World) : Prop where
  cell : ∀ n r dk, dk.size = d.size → ∀ t, t < d.size → (Wr n r dk).cell? ⟨blk, off + t, none⟩ = some (.int .u64 dk[t]!)
  melt : ∀ n r dk t, t < d.size → (Wr n r dk).frozen? ⟨blk, off + t, none⟩ = false
  rcell : ∀ n r dk, (Wr n r dk).cell? ⟨sb, 0, none⟩ = some (.int .u64 (r : Int))
  rmelt : ∀ n r dk, (Wr n r dk).frozen? ⟨sb, 0, none⟩ = false
  step : ∀ n (r r' : Nat) q dk j k, dk.size = d.size → j < d.size → k < d.size → ((((Wr n r dk).setCell ⟨sb, 0, none⟩ (.int .u64 (r' : Int))).drewN q).setCell ⟨blk, off + j, none⟩ (.int .u64 dk[k]!)).setCell ⟨blk, off + k, none⟩ (.int .u64 dk[j]!) = Wr (n + q) r' (swp dk j k)
  grown : ∀ n r dk, ∃ os, Wr n r dk = grow (putRow encU (Sort.ahead w n) blk off dk) os

theorem Rnd.make {w : World} {blk off : Nat} {d : Array Int} (hH : Holds encU w blk off d) (hblk : blk < w.heap.size) (L : Nat) (T : TypeId) :
    ∃ Wr, w.alloc (.cells #[.int .u64 (L : Int)] T) = Wr 0 L d ∧ Rnd w blk off d w.heap.size Wr := by
  have hz : ∀ n dk, (putRow encU (Sort.ahead w n) blk off dk).heap.size = w.heap.size := fun n dk => by simp
  refine ⟨fun n r dk => grow (putRow encU (Sort.ahead w n) blk off dk) #[.cells #[.int .u64 (r : Int)] T], ?_, fun n r dk hs t ht => ?_, fun n r dk t ht => ?_, fun n r dk => ?_, fun n r dk => ?_, fun n r r' q dk j k hs hj hk => ?_, fun n r dk => ⟨_, rfl⟩⟩
  · show _ = grow (putRow encU (Sort.ahead w 0) blk off d) _
    rw [show Sort.ahead w 0 = w from rfl, putRow_self _ _ _ _ _ hH, alloc_eq_grow]
  · show (grow _ _).cell? _ = _
    rw [cell?_grow _ _ _ (by rw [hz]; exact hblk)]; exact cell?_putRow _ _ _ _ d dk (holds_ahead _ _ _ _ _ _ hH) hs t (by omega)
  · show (grow _ _).frozen? _ = _
    rw [frozen?_grow _ _ _ (by rw [hz]; exact hblk), frozen?_putRow]; exact ((holds_ahead _ _ n _ _ _ hH) t ht).2
  · show (grow _ _).cell? _ = _
    have h := grow_one_cell (putRow encU (Sort.ahead w n) blk off dk) (.int .u64 (r : Int)) T
    rw [hz] at h; exact h
  · show (grow _ _).frozen? _ = _
    have h := grow_one_frozen (putRow encU (Sort.ahead w n) blk off dk) (.int .u64 (r : Int)) T
    rw [hz] at h; exact h
  · exact step_world encU w n q blk off dk j k hblk (by omega) (by omega) _ _ _

set_option maxHeartbeats 2000000 in
set_option maxRecDepth 100000 in
theorem patterns_go (blk off cap len a L : Nat) (d : Array Int) (w : World) (hlen : d.size = len) (hH : Holds encU w blk off d) (hblk : blk < w.heap.size) (hb : a + L ≤ len) (hsz : len < 4611686018427387904) (h8 : 8 ≤ L) :
    Calls Tryz.prog 74 #[.slice (some ⟨blk, off, none⟩) len cap, .int .i64 a, .int .i64 ((a + L : Nat) : Int)] w fun e w' =>
      e = .returned (.tuple #[]) ∧ ∃ n os, w' = grow (putRow encU (Sort.ahead w n) blk off (breakPatterns d a (a + L))) os := by
  subst hlen
  rw [breakPatterns_eq d a L h8]
  obtain ⟨M, hM⟩ : ∃ M : Nat, M = 1 <<< bitsLen L := ⟨_, rfl⟩
  have hM1 : 1 ≤ M := by rw [hM, Nat.one_shiftLeft]; exact Nat.two_pow_pos _
  have hM2 : M ≤ 2 * L := by rw [hM, Nat.one_shiftLeft]; exact two_pow_bitsLen_le (by omega)
  have hNP : ∀ w, Calls Tryz.prog 91 #[.int .i64 (L : Int)] w fun e w' => e = .returned (.int .u64 (M : Int)) ∧ w' = w := by rw [hM]; exact fun w => nextPower_u L (by omega) w
  rw [← hM]
  obtain ⟨Wr, hW0, hR⟩ := Rnd.make hH hblk L 128
  have HR := Lib.hid hR
  have HW0 := Lib.hid (show w.alloc (.cells #[.int .u64 (L : Int)] 128) = Wr 0 (UInt64.ofNat L).toNat d by rw [hW0, show (UInt64.ofNat L).toNat = L from by simp; omega])
  clear hM hH hR hW0
  go_enter Tryz.func74, Tryz.ntmps74
  go_wp2_with (go_at_call 91; rw [show ((a : Int) + (L : Int) - (a : Int)) = (L : Int) by omega]; refine (hNP _).mono ?_; rintro e w' ⟨rfl, rfl⟩)
  go_loopw [9] (fun vi wr => ∃ (t n : Nat) (r : UInt64) (dk : Array Int), vi = .int .i64 ((a + L / 4 * 2 - 1 + t : Nat) : Int) ∧ t ≤ 3 ∧ dk.size = d.size ∧ wr = Wr n r.toNat dk ∧
      bpRest a L M (a + L / 4 * 2 - 1) (3 - t) t (r, dk) = bpRest a L M (a + L / 4 * 2 - 1) 3 0 (UInt64.ofNat L, d)) (fun vi _ => a + L / 4 * 2 + 3 - (intOf vi).toNat)
  case atStart => exact ⟨0, 0, UInt64.ofNat L, d, by congr 1; omega, by omega, rfl, HW0.out, rfl⟩
  case round =>
    obtain ⟨t, n, r, dk, rfl, ht, hsk, hw, hq⟩ := hrel
    obtain ⟨R, hRr⟩ : ∃ R : Nat, R = r.toNat := ⟨_, rfl⟩
    have lR : R < 18446744073709551616 := by rw [hRr]; exact r.toNat_lt
    obtain ⟨R', hR'⟩ : ∃ R' : Nat, R' = xorNextN R := ⟨_, rfl⟩
    have lR' : R' < 18446744073709551616 := by rw [hR']; exact xorNextN_lt R lR
    obtain ⟨O, hO⟩ : ∃ O : Nat, O = R' &&& (M - 1) := ⟨_, rfl⟩
    have lO : O ≤ M - 1 := by rw [hO]; exact Nat.and_le_right
    have eAnd : bits .and .u64 (R' : Int) ((M : Int) - 1) = (O : Int) := by
      rw [show ((M : Int) - 1) = ((M - 1 : Nat) : Int) by omega, bits_and_u64_nat _ _ lR' (by omega), hO]
    obtain ⟨G, hG⟩ : ∃ G : Nat → Int, ∀ x, G x = dk[x]! := ⟨fun x => dk[x]!, fun _ => rfl⟩
    rw [← hRr] at hw
    have hcw : ∀ x, x < d.size → wr.cell? ⟨blk, off + x, none⟩ = some (.int .u64 (G x)) := fun x hx => by rw [hw, hG]; exact HR.out.cell _ _ _ hsk x hx
    have hfw : ∀ x, x < d.size → wr.frozen? ⟨blk, off + x, none⟩ = false := fun x hx => by rw [hw]; exact HR.out.melt _ _ _ x hx
    have hNext : Calls Tryz.prog 92 #[.pointer (some ⟨w.heap.size, 0, none⟩)] wr fun e w' => e = .returned (.int .u64 (R' : Int)) ∧ w' = (wr.setCell ⟨w.heap.size, 0, none⟩ (.int .u64 (R' : Int))).drewN 3 := by
      rw [hR', hw]; exact xorshift_u _ R lR _ (HR.out.rcell _ _ _) (HR.out.rmelt _ _ _)
    have HNX := Lib.hid hNext
    have HW := Lib.hid hw
    have HG := Lib.hid hG
    have HQ := Lib.hid hq
    have HN := Lib.hid (show R' = (xorNext r).toNat ∧ O = (xorNext r).toNat &&& (M - 1) from by
      have e : R' = (xorNext r).toNat := by rw [hR', hRr, xorNext_toNat]
      exact ⟨e, by rw [hO, e]⟩)
    have HST := Lib.hid (fun j k hj hk => HR.out.step n R R' 4 dk j k hsk hj hk)
    clear hw hG hq hRr hR' hO hNext
    go_wp2_with (go_at_call 92; refine HNX.out.mono ?_; rintro e w' ⟨rfl, rfl⟩)
    · have hLO : L ≤ O := by omega
      by_cases hEq : a + L / 4 * 2 - 1 + t = a + (O - L)
      all_goals
        go_region
        all_goals go_wp2
        go_roundw
        case rel =>
          refine ⟨t + 1, n + 4, xorNext r, swp dk (a + L / 4 * 2 - 1 + t) (a + (O - L)), by first | rfl | (congr 1 <;> omega), by omega, by rw [size_swp]; exact hsk, ?_, ?_⟩
          · (try rw [hEq])
            have := HST.out (a + L / 4 * 2 - 1 + t) (a + (O - L)) (by omega) (by omega)
            rw [HW.out, ← HN.out.1]
            simp only [HG.out]
            (try rw [hEq] at this)
            exact this
          · rw [← HQ.out, bp_step a L M _ t r dk (O - L) (by omega) (by rw [← HN.out.2, if_pos (by omega)])]
        case measure => simp [intOf]; omega
    · have hLO : ¬ L ≤ O := by omega
      by_cases hEq : a + L / 4 * 2 - 1 + t = a + O
      all_goals
        go_region
        all_goals go_wp2
        go_roundw
        case rel =>
          refine ⟨t + 1, n + 4, xorNext r, swp dk (a + L / 4 * 2 - 1 + t) (a + O), by first | rfl | (congr 1 <;> omega), by omega, by rw [size_swp]; exact hsk, ?_, ?_⟩
          · (try rw [hEq])
            have := HST.out (a + L / 4 * 2 - 1 + t) (a + O) (by omega) (by omega)
            rw [HW.out, ← HN.out.1]
            simp only [HG.out]
            (try rw [hEq] at this)
            exact this
          · rw [← HQ.out, bp_step a L M _ t r dk O (by omega) (by rw [← HN.out.2, if_neg (by omega)])]
        case measure => simp [intOf]; omega
    · obtain rfl : t = 3 := by omega
      obtain ⟨os, hos⟩ := HR.out.grown n R dk
      have HOS := Lib.hid hos
      clear hos
      go_end0
      exact ⟨rfl, n, os, by rw [← HQ.out, HW.out, HOS.out]; rfl⟩

theorem patterns_u (blk off cap len a b : Nat) (d : Array Int) (w : World) (hlen : d.size = len) (hH : Holds encU w blk off d) (hblk : blk < w.heap.size) (hab : a ≤ b) (hb : b ≤ len) (hsz : len < 4611686018427387904) :
    Calls Tryz.prog 74 #[.slice (some ⟨blk, off, none⟩) len cap, .int .i64 a, .int .i64 b] w fun e w' =>
      e = .returned (.tuple #[]) ∧ ∃ n os, w' = grow (putRow encU (Sort.ahead w n) blk off (breakPatterns d a b)) os := by
  obtain ⟨L, rfl⟩ : ∃ L, b = a + L := ⟨b - a, by omega⟩
  by_cases h8 : 8 ≤ L
  · exact patterns_go blk off cap len a L d w hlen hH hblk hb hsz h8
  · have hv : breakPatterns d a (a + L) = d := by unfold breakPatterns; simp only [Nat.add_sub_cancel_left]; rw [if_neg h8]
    rw [hv]
    have HST := Lib.hid (show w = grow (putRow encU (Sort.ahead w 0) blk off d) #[] by
      rw [grow_empty, show Sort.ahead w 0 = w from rfl, putRow_self _ _ _ _ _ hH])
    clear hH
    go_enter Tryz.func74, Tryz.ntmps74
    go_wp2
    go_end0
    exact ⟨rfl, 0, #[], HST.out⟩

end Go.Proofs.YtpbnjibomdilhaaGreatDoor.Gph
