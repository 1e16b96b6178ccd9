/- slices.Sort at []uint64, fifth part: the pivot is chosen, by contracts. -/
import Derived.Test.YthbaldjdfehhlaaSu0
import Derived.Sort.Walk11
namespace Go.Proofs.Ythbaldjdfehhlaa
open Go.RowKit Go.Sort

/-- a counter in a block of its own beside a row that is only read: the world by the draws made and the count -/
structure Cnt (w : World) (blk off : Nat) (d : Array Int) (sb : Nat) (Wc : Nat → Nat → World) : Prop where
  cell : ∀ N S t, t < d.size → (Wc N S).cell? ⟨blk, off + t, none⟩ = some (.int .u64 d[t]!)
  cnt : ∀ N S : Nat, (Wc N S).cell? ⟨sb, 0, none⟩ = some (.int .i64 (S : Int))
  melt : ∀ N S, (Wc N S).frozen? ⟨sb, 0, none⟩ = false
  put : ∀ N S T : Nat, (Wc N S).setCell ⟨sb, 0, none⟩ (.int .i64 (T : Int)) = Wc N T
  drew : ∀ N S q, (Wc N S).drewN q = Wc (N + q) S
  grown : ∀ N S, ∃ os, Wc N S = grow (Sort.ahead w N) os

theorem Cnt.make {w : World} {blk off : Nat} {d : Array Int} (hH : Holds encU w blk off d) (hblk : blk < w.heap.size) :
    ∃ Wc, w.alloc (.cells #[.int .i64 0] 3) = Wc 0 0 ∧ Cnt w blk off d w.heap.size Wc := by
  have hne : w.heap.size ≠ blk := by omega
  have hH0 : Holds encU (w.alloc (.cells #[.int .i64 0] 3)) blk off d := by rw [alloc_eq_grow]; exact holds_grow _ _ _ _ _ _ hblk hH
  have hS0 : Holds (Value.int .i64) (w.alloc (.cells #[.int .i64 0] 3)) w.heap.size 0 (one 0) := fun j hj => by
    obtain rfl : j = 0 := by simpa using hj
    simp
  refine ⟨fun N S => putRow (Value.int .i64) (Sort.ahead (w.alloc (.cells #[.int .i64 0] 3)) N) w.heap.size 0 (one S), (putRow_self _ _ _ _ _ hS0).symm, fun N S t ht => ?_, fun N S => ?_, fun N S => ?_, fun N S T => ?_, fun N S q => putRow_drewN _ _ _ _ _ _ _, fun N S => ?_⟩
  · rw [cell?_putRow_other _ _ _ _ _ _ (Or.inl (Ne.symm hne))]; exact (hH0 t ht).1
  · exact (one_cell (holds_one (n := N) (t := S) hS0)).1
  · exact (one_cell (holds_one (n := N) (t := S) hS0)).2
  · have h := one_set (holds_one (n := N) (t := S) hS0) T
    rw [h]
    exact putRow_putRow _ _ _ _ _ _ rfl
  · rw [alloc_eq_grow, ahead_grow]
    obtain ⟨os, _, h⟩ := putRow_grow_new (Value.int .i64) (Sort.ahead w N) #[.cells #[.int .i64 0] 3] w.heap.size 0 (one S) (Nat.le_refl _)
    exact ⟨os, h⟩

section
variable {w : World} {blk off sb : Nat} {d : Array Int} {Wc : Nat → Nat → World}
set_option maxHeartbeats 1000000 in
theorem order2_u (hC : Cnt w blk off d sb Wc) (len cap a b s N : Nat) (hlen : d.size = len) (ha : a < d.size) (hb : b < d.size) (hs : s < 4611686018427387904) :
    Calls Try.prog 80 #[.slice (some ⟨blk, off, none⟩) len cap, .int .i64 a, .int .i64 b, .pointer (some ⟨sb, 0, none⟩)] (Wc N s) fun e w' =>
      e = .returned (.tuple #[.int .i64 (order2 ltInt d a b s).1, .int .i64 (order2 ltInt d a b s).2.1]) ∧ ∃ N', w' = Wc N' (order2 ltInt d a b s).2.2 := by
  subst hlen
  obtain ⟨G, hG⟩ : ∃ G : Nat → Int, ∀ t, G t = d[t]! := ⟨fun t => d[t]!, fun _ => rfl⟩
  have hcw : ∀ t, t < d.size → (Wc N s).cell? ⟨blk, off + t, none⟩ = some (.int .u64 (G t)) := fun t ht => by rw [hG]; exact hC.cell N s t ht
  have HG := Lib.hid hG
  have HC := Lib.hid hC
  have hE := Lib.hid (show order2 ltInt d a b s = if ltInt d[b]! d[a]! then (b, a, s + 1) else (a, b, s) from rfl)
  obtain ⟨W, hW⟩ : ∃ W, W = Wc N s := ⟨_, rfl⟩
  rw [← hW] at hcw ⊢
  have HW := Lib.hid hW
  clear hC hG hW
  go_enter Try.func80, Try.ntmps80
  go_wp2
  go_big_quiet (first | (go_at_call 59; refine Calls.quiet_of_same (less_u _ _ _)))
  have hcnt : (W.drewN nq).cell? ⟨sb, 0, none⟩ = some (.int .i64 (s : Int)) := by rw [HW.out, HC.out.drew]; exact HC.out.cnt _ _
  have hml : (W.drewN nq).frozen? ⟨sb, 0, none⟩ = false := by rw [HW.out, HC.out.drew]; exact HC.out.melt _ _
  go_wp2
  · have hl : ltInt (G b) (G a) = true := by assumption
    go_ret2
    rw [hE.out, if_pos (by rw [← HG.out, ← HG.out]; exact hl)]
    refine ⟨rfl, N + nq, ?_⟩
    have e := HC.out.put (N + nq) s (s + 1)
    rw [← e, ← HC.out.drew, ← HW.out]
    rfl
  · have hl : ltInt (G b) (G a) = false := by assumption
    go_ret2
    rw [hE.out, if_neg (by rw [← HG.out, ← HG.out, hl]; simp)]
    exact ⟨rfl, N + nq, by rw [HW.out]; exact HC.out.drew _ _ _⟩

set_option maxHeartbeats 1000000 in
theorem median_u (hC : Cnt w blk off d sb Wc) (len cap a b c s N : Nat) (hlen : d.size = len) (ha : a < d.size) (hb : b < d.size) (hc : c < d.size) (hs : s + 3 < 4611686018427387904) :
    Calls Try.prog 71 #[.slice (some ⟨blk, off, none⟩) len cap, .int .i64 a, .int .i64 b, .int .i64 c, .pointer (some ⟨sb, 0, none⟩)] (Wc N s) fun e w' =>
      e = .returned (.int .i64 (median ltInt d a b c s).1) ∧ ∃ N', w' = Wc N' (median ltInt d a b c s).2 := by
  obtain ⟨r1, hr1⟩ : ∃ r, r = order2 ltInt d a b s := ⟨_, rfl⟩
  obtain ⟨r2, hr2⟩ : ∃ r, r = order2 ltInt d r1.2.1 c r1.2.2 := ⟨_, rfl⟩
  obtain ⟨r3, hr3⟩ : ∃ r, r = order2 ltInt d r1.1 r2.1 r2.2.2 := ⟨_, rfl⟩
  have l1 := order2_lt d s ha hb
  have s1 := order2_swaps d a b s
  rw [← hr1] at l1 s1
  have l2 := order2_lt d r1.2.2 l1.2 hc
  have s2 := order2_swaps d r1.2.1 c r1.2.2
  rw [← hr2] at l2 s2
  have HM := Lib.hid (show median ltInt d a b c s = (r3.2.1, r3.2.2) by rw [hr3, hr2, hr1]; rfl)
  have c1 := fun N => order2_u hC len cap a b s N hlen ha hb (by omega)
  have c2 := fun N => order2_u hC len cap r1.2.1 c r1.2.2 N hlen l1.2 hc (by omega)
  have c3 := fun N => order2_u hC len cap r1.1 r2.1 r2.2.2 N hlen l1.1 l2.1 (by omega)
  rw [← hr1] at c1
  rw [← hr2] at c2
  rw [← hr3] at c3
  have C1 := Lib.hid c1
  have C2 := Lib.hid c2
  have C3 := Lib.hid c3
  clear hC c1 c2 c3 hr1 hr2 hr3
  go_enter Try.func71, Try.ntmps71
  go_wp2_with fail
  refine (C1.out _).mono ?_
  rintro e w' ⟨rfl, n1, rfl⟩
  go_wp2_with fail
  refine (C2.out _).mono ?_
  rintro e w' ⟨rfl, n2, rfl⟩
  go_wp2_with fail
  refine (C3.out _).mono ?_
  rintro e w' ⟨rfl, n3, rfl⟩
  go_wp2_with fail
  go_ret
  rw [HM.out]
  exact ⟨rfl, n3, rfl⟩

theorem medianAdjacent_u (hC : Cnt w blk off d sb Wc) (len cap a s N : Nat) (hlen : d.size = len) (ha0 : 1 ≤ a) (ha : a + 1 < d.size) (hsz : d.size < 4611686018427387904) (hs : s + 3 < 4611686018427387904) :
    Calls Try.prog 70 #[.slice (some ⟨blk, off, none⟩) len cap, .int .i64 a, .pointer (some ⟨sb, 0, none⟩)] (Wc N s) fun e w' =>
      e = .returned (.int .i64 (medianAdjacent ltInt d a s).1) ∧ ∃ N', w' = Wc N' (medianAdjacent ltInt d a s).2 := by
  have hc := median_u hC len cap (a - 1) a (a + 1) s N hlen (by omega) (by omega) ha hs
  rw [show ((a - 1 : Nat) : Int) = (a : Int) - 1 by omega, show ((a + 1 : Nat) : Int) = (a : Int) + 1 by omega] at hc
  have HC := Lib.hid hc
  clear hC hc
  go_enter Try.func70, Try.ntmps70
  go_wp2_with fail
  refine HC.out.mono ?_
  rintro e w' ⟨rfl, n1, rfl⟩
  go_wp2_with fail
  go_ret
  exact ⟨rfl, n1, rfl⟩
end

/-- the hint's number by the count -/
theorem hint_is (s : Nat) : ∃ H : Int, H = hintCode (hintOf s) ∧ (s = 0 → H = 1) ∧ (s = 12 → H = 2) ∧ (s ≠ 0 → s ≠ 12 → H = 0) :=
  ⟨_, rfl, fun h => by rw [h]; rfl, fun h => by rw [h]; rfl, fun h1 h2 => by unfold hintOf; rw [if_neg h1, if_neg h2]; rfl⟩

set_option maxRecDepth 100000 in
set_option maxHeartbeats 2000000 in
theorem pivot_u (blk off cap len a b : Nat) (d : Array Int) (w : World) (hlen : d.size = len) (hH : Holds encU w blk off d) (hblk : blk < w.heap.size) (hab : a < b) (hb : b ≤ len) (hsz : len < 4611686018427387904) :
    Calls Try.prog 56 #[.slice (some ⟨blk, off, none⟩) len cap, .int .i64 a, .int .i64 b] w fun e w' =>
      e = .returned (.tuple #[.int .i64 (choosePivot ltInt d a b).1, .int .i64 (hintCode (choosePivot ltInt d a b).2)]) ∧ ∃ n os, w' = grow (Sort.ahead w n) os := by
  obtain ⟨Wc, hW0, hC⟩ := Cnt.make hH hblk
  clear hH
  rw [choosePivot_eq]
  obtain ⟨I, hI⟩ : ∃ I : Nat, I = a + (b - a) / 4 * 1 := ⟨_, rfl⟩
  obtain ⟨J, hJ⟩ : ∃ J : Nat, J = a + (b - a) / 4 * 2 := ⟨_, rfl⟩
  obtain ⟨K, hK⟩ : ∃ K : Nat, K = a + (b - a) / 4 * 3 := ⟨_, rfl⟩
  have eI : ((a : Int) + ((b : Int) - (a : Int)) / 4) = (I : Int) := by omega
  have eJ : ((a : Int) + ((b : Int) - (a : Int)) / 4 * 2) = (J : Int) := by omega
  have eK : ((a : Int) + ((b : Int) - (a : Int)) / 4 * 3) = (K : Int) := by omega
  obtain ⟨p, s, hraw⟩ : ∃ p s, rawPivot ltInt d a b = (p, s) := ⟨_, _, rfl⟩
  obtain ⟨Hc, hHc, hh0, hh12, hhx⟩ := hint_is s
  have HE := Lib.hid (show (fun e w' => e = Ending.returned (.tuple #[.int .i64 (rawPivot ltInt d a b).1, .int .i64 (hintCode (hintOf (rawPivot ltInt d a b).2))]) ∧ ∃ n os, w' = grow (Sort.ahead w n) os) = (fun (e : Ending) (w' : World) => e = .returned (.tuple #[.int .i64 (p : Int), .int .i64 Hc]) ∧ ∃ n os, w' = grow (Sort.ahead w n) os) by rw [hraw, hHc])
  refine Calls.mono ?_ (fun e w' h => (show _ from by have := congrFun (congrFun HE.out e) w'; exact this.mpr h))
  by_cases h8 : b - a ≥ 8
  · by_cases h50 : b - a ≥ 50
    · obtain ⟨i1, s1, h1⟩ : ∃ i1 s1, medianAdjacent ltInt d I 0 = (i1, s1) := ⟨_, _, rfl⟩
      obtain ⟨j1, s2, h2⟩ : ∃ j1 s2, medianAdjacent ltInt d J s1 = (j1, s2) := ⟨_, _, rfl⟩
      obtain ⟨k1, s3, h3⟩ : ∃ k1 s3, medianAdjacent ltInt d K s2 = (k1, s3) := ⟨_, _, rfl⟩
      have h4 : median ltInt d i1 j1 k1 s3 = (p, s) := by
        rw [← hraw]; simp only [rawPivot, if_pos h8, if_pos h50, ← hI, ← hJ, ← hK, h1, h2, h3]
      have m1 := medianAdjacent_mem ltInt d I 0; rw [h1] at m1
      have m2 := medianAdjacent_mem ltInt d J s1; rw [h2] at m2
      have m3 := medianAdjacent_mem ltInt d K s2; rw [h3] at m3
      have n1 := medianAdjacent_count ltInt d I 0; rw [h1] at n1
      have n2 := medianAdjacent_count ltInt d J s1; rw [h2] at n2
      have n3 := medianAdjacent_count ltInt d K s2; rw [h3] at n3
      simp only [] at m1 m2 m3 n1 n2 n3
      have c1 := medianAdjacent_u hC len cap I 0 0 hlen (by omega) (by omega) (by omega) (by omega); rw [h1] at c1
      have c2 := fun N => medianAdjacent_u hC len cap J s1 N hlen (by omega) (by omega) (by omega) (by omega); rw [h2] at c2
      have c3 := fun N => medianAdjacent_u hC len cap K s2 N hlen (by omega) (by omega) (by omega) (by omega); rw [h3] at c3
      have c4 := fun N => median_u hC len cap i1 j1 k1 s3 N hlen (by omega) (by omega) (by omega) (by omega); rw [h4] at c4
      have C1 := Lib.hid c1
      have C2 := Lib.hid c2
      have C3 := Lib.hid c3
      have C4 := Lib.hid c4
      have HC := Lib.hid hC
      have HK := Lib.hid (And.intro hh0 (And.intro hh12 hhx))
      have hcn := hC.cnt
      clear c1 c2 c3 c4 hC h1 h2 h3 h4 m1 m2 m3 n1 n2 n3 hI hJ hK hh0 hh12 hhx hraw HE hHc
      go_enter Try.func56, Try.ntmps56
      go_wp2_with fail
      refine C1.out.mono ?_
      rintro e w' ⟨rfl, N1, rfl⟩
      go_wp2_with fail
      refine (C2.out _).mono ?_
      rintro e w' ⟨rfl, N2, rfl⟩
      go_wp2_with fail
      refine (C3.out _).mono ?_
      rintro e w' ⟨rfl, N3, rfl⟩
      go_wp2_with fail
      refine (C4.out _).mono ?_
      rintro e w' ⟨rfl, N4, rfl⟩
      have hgr := HC.out.grown N4 s
      by_cases e0 : s = 0
      · have h0 := HK.out.1 e0
        subst e0 h0
        go_wp2
        go_ret2
        exact ⟨rfl, _, hgr⟩
      · have e0z : ((s : Int) == 0) = false := by simp; omega
        by_cases e1 : s = 12
        · have h0 := HK.out.2.1 e1
          subst e1 h0
          go_wp2
          go_ret2
          exact ⟨rfl, _, hgr⟩
        · have h0 := HK.out.2.2 e0 e1
          have e1z : ((s : Int) == 12) = false := by simp; omega
          subst h0
          go_wp2
          go_ret2
          exact ⟨rfl, _, hgr⟩
    · have h4 : median ltInt d I J K 0 = (p, s) := by
        rw [← hraw]; simp only [rawPivot, if_pos h8, if_neg h50, ← hI, ← hJ, ← hK]
      have c4 := median_u hC len cap I J K 0 0 hlen (by omega) (by omega) (by omega) (by omega); rw [h4] at c4
      have C4 := Lib.hid c4
      have HC := Lib.hid hC
      have HK := Lib.hid (And.intro hh0 (And.intro hh12 hhx))
      have hcn := hC.cnt
      clear c4 hC h4 hI hJ hK hh0 hh12 hhx hraw HE hHc
      go_enter Try.func56, Try.ntmps56
      go_wp2_with fail
      refine C4.out.mono ?_
      rintro e w' ⟨rfl, N4, rfl⟩
      have hgr := HC.out.grown N4 s
      by_cases e0 : s = 0
      · have h0 := HK.out.1 e0
        subst e0 h0
        go_wp2
        go_ret2
        exact ⟨rfl, _, hgr⟩
      · have e0z : ((s : Int) == 0) = false := by simp; omega
        by_cases e1 : s = 12
        · have h0 := HK.out.2.1 e1
          subst e1 h0
          go_wp2
          go_ret2
          exact ⟨rfl, _, hgr⟩
        · have h0 := HK.out.2.2 e0 e1
          have e1z : ((s : Int) == 12) = false := by simp; omega
          subst h0
          go_wp2
          go_ret2
          exact ⟨rfl, _, hgr⟩
  · have h4 : p = J ∧ s = 0 := by
      have : rawPivot ltInt d a b = (J, 0) := by simp only [rawPivot, if_neg h8, ← hJ]
      rw [hraw] at this
      exact ⟨congrArg Prod.fst this, congrArg Prod.snd this⟩
    obtain ⟨rfl, rfl⟩ := h4
    have h0 := hh0 rfl
    subst h0
    have hgr := hC.grown 0 0
    have hcn := hC.cnt
    clear hC hI hJ hK hh0 hh12 hhx hraw HE hHc
    go_enter Try.func56, Try.ntmps56
    go_wp2
    go_ret2
    exact ⟨rfl, _, hgr⟩

end Go.Proofs.Ythbaldjdfehhlaa
