/- The law's own examples: 'known' answers true. -/
import Derived.Test.YtkhajpefnkialaaSameL
namespace Go.Proofs.Ytkhajpefnkialaa.Job
open Go.RowKit

/-- a row does not lie in block B -/
def Off (B : Nat) (s : Sl) : Prop := s.xs ≠ [] → ∀ x, s.a = some x → x.block ≠ B
theorem slf_set {W : World} {B i : Nat} {v : Value} {s : Sl} (h : SlF W s) (ho : Off B s) : SlF (W.setCell ⟨B, i, none⟩ v) s := by
  refine ⟨?_, h.none⟩
  by_cases hx : s.xs = []
  · rw [hx]; exact Vals.nil _ _
  · exact h.read.kept (by simp [World.setCell]) fun x e _ => set_else (fun e2 => ho hx x e e2.symm)
/-- a lot in a block of a call's own, and rows that were told apart from it -/
structure KL (w W : World) (B : Nat) (l : Lt) (R : List Sl) : Prop where
  bel : Below w.heap.size w W
  row : W.heap[B]? = some (lobj l)
  ge : w.heap.size ≤ B
  lot : LtF W l
  od : Off B l.due
  oc : Off B l.come
  res : ∀ s ∈ R, SlF W s ∧ Off B s
section
variable {w W W' : World} {B : Nat} {l : Lt} {R : List Sl}
theorem KL.below (h : KL w W B l R) (hb : Below W.heap.size W W') : KL w W' B l R :=
  ⟨h.bel.trans (hb.mono h.bel.size), (hb.block B (lt_of_block h.row)).trans h.row, h.ge, h.lot.below hb, h.od, h.oc, fun s hs => ⟨(h.res s hs).1.below hb, (h.res s hs).2⟩⟩
theorem KL.pol (h : KL w W B l R) (x : Int) : KL w (W.setCell ⟨B, 0, none⟩ (.int .i64 x)) B { l with pol := x } R :=
  ⟨h.bel.setCell (p := ⟨B, 0, none⟩) h.ge _, lset_pol h.row x, h.ge, ⟨slf_set h.lot.due h.od, slf_set h.lot.come h.oc⟩, h.od, h.oc, fun s hs => ⟨slf_set (h.res s hs).1 (h.res s hs).2, (h.res s hs).2⟩⟩
theorem KL.room (h : KL w W B l R) (x : Int) : KL w (W.setCell ⟨B, 5, none⟩ (.int .i64 x)) B { l with room := x } R :=
  ⟨h.bel.setCell (p := ⟨B, 5, none⟩) h.ge _, lset_room h.row x, h.ge, ⟨slf_set h.lot.due h.od, slf_set h.lot.come h.oc⟩, h.od, h.oc, fun s hs => ⟨slf_set (h.res s hs).1 (h.res s hs).2, (h.res s hs).2⟩⟩
theorem KL.judge (h : KL w W B l R) (hm : l.May) (h63 : ∀ x ∈ l.cs, x ≤ 9223372036854775807) :
    Calls Try.prog 6 #[l.val] W fun e w' => ∃ a b ca cb, e = .returned (.tuple #[.slice a l.dues.length ca, .slice b l.skips.length cb, .int .i64 0]) ∧
      KL w w' B l (R ++ [⟨a, l.dues, ca⟩, ⟨b, l.skips, cb⟩]) ∧ (∀ x, a = some x → W.heap.size ≤ x.block) ∧ (∀ x, b = some x → W.heap.size ≤ x.block) ∧ Below W.heap.size W w' := by
  refine (judge_yes h.lot hm h63).mono ?_
  rintro e w' ⟨a, b, ca, cb, rfl, h1, h2, h3, h4, hb⟩
  refine ⟨a, b, ca, cb, rfl, ?_, h3, h4, hb⟩
  have hlt := lt_of_block h.row
  have h' := h.below hb
  refine ⟨h'.bel, h'.row, h'.ge, h'.lot, h'.od, h'.oc, fun s hs => ?_⟩
  rcases List.mem_append.1 hs with hs | hs
  · exact h'.res s hs
  · simp at hs
    rcases hs with rfl | rfl
    · exact ⟨h1, fun _ x e => by have := h3 x e; omega⟩
    · exact ⟨h2, fun _ x e => by have := h4 x e; omega⟩
end
/-- a row is held against a literal -/
theorem same_lit {W : World} {s : Sl} (ys : List Int) (cs : Array Value) (hs : SlF W s) (he : s.xs = ys) (hc : cs = (ys.map iv).toArray) (hl : ys.length ≤ 1000) :
    Calls Try.prog 7 #[.slice s.a ys.length s.c, .slice (some ⟨W.heap.size, 0, none⟩) ys.length ys.length] (W.alloc (.cells cs 2)) fun e w' => e = .returned (.bool true) ∧ Below W.heap.size W w' := by
  have hb : Below W.heap.size W (W.alloc (.cells cs 2)) := (Below.refl _ _).alloc (Nat.le_refl _) _
  have h1 := (hs.below hb).read
  rw [he] at h1
  refine (same_any (c := s.c) (d := ys.length) h1 (vals_row _ (heap_alloc_new W _) fun i hi => by rw [hc, List.getElem?_toArray]; exact List.getElem?_eq_getElem hi) (by omega)).mono ?_
  rintro e w' ⟨rfl, hd⟩
  exact ⟨by simp, hb.trans (hd.bel.mono hb.size)⟩

def kl1 (g1 g2 : Nat) : Lt := ⟨1, 100, 1000, some ⟨g1, 0, none⟩, 1, [500], some ⟨g2, 0, none⟩, 2, [800, 950], 9⟩
def kl2 (g1 g2 : Nat) : Lt := ⟨2, 100, 1000, some ⟨g1, 0, none⟩, 1, [500], some ⟨g2, 0, none⟩, 2, [800, 950], 9⟩
def kl3 (g1 g2 : Nat) : Lt := ⟨3, 100, 1000, some ⟨g1, 0, none⟩, 1, [500], some ⟨g2, 0, none⟩, 2, [800, 950], 9⟩
def kl4 (g1 g2 : Nat) : Lt := ⟨2, 100, 1000, some ⟨g1, 0, none⟩, 1, [500], some ⟨g2, 0, none⟩, 2, [800, 950], 2⟩
theorem k1_dues (a b : Nat) : (kl1 a b).dues = [500, 950] := by kernel_rfl
theorem k1_skips (a b : Nat) : (kl1 a b).skips = [800] := by kernel_rfl
theorem k2_dues (a b : Nat) : (kl2 a b).dues = [500, 800, 950] := by kernel_rfl
theorem k2_skips (a b : Nat) : (kl2 a b).skips = [] := by kernel_rfl
theorem k3_dues (a b : Nat) : (kl3 a b).dues = [950] := by kernel_rfl
theorem k3_skips (a b : Nat) : (kl3 a b).skips = [500, 800] := by kernel_rfl
theorem k4_dues (a b : Nat) : (kl4 a b).dues = [500, 950] := by kernel_rfl
theorem k4_skips (a b : Nat) : (kl4 a b).skips = [800] := by kernel_rfl
theorem k1_may (a b : Nat) : (kl1 a b).May := Lt.may_iff.1 (by kernel_rfl)
theorem k2_may (a b : Nat) : (kl2 a b).May := Lt.may_iff.1 (by kernel_rfl)
theorem k3_may (a b : Nat) : (kl3 a b).May := Lt.may_iff.1 (by kernel_rfl)
theorem k4_may (a b : Nat) : (kl4 a b).May := Lt.may_iff.1 (by kernel_rfl)
theorem k_63 : ∀ x ∈ [(800 : Int), 950], x ≤ 9223372036854775807 := by decide

set_option maxRecDepth 100000 in
set_option maxHeartbeats 8000000 in
theorem known_any (w : World) : Calls Try.prog 4 #[] w fun e w' => e = .returned (.bool true) ∧ Below w.heap.size w w' := by
  obtain ⟨g1, hg1⟩ : ∃ g, g = w.heap.size := ⟨_, rfl⟩
  obtain ⟨g2, hg2⟩ : ∃ g, g = w.heap.size + 1 := ⟨_, rfl⟩
  obtain ⟨B, hB⟩ : ∃ g, g = w.heap.size + 1 + 1 := ⟨_, rfl⟩
  obtain ⟨w1, hw1⟩ : ∃ W, W = w.alloc (.cells #[.int .i64 500] 2) := ⟨_, rfl⟩
  obtain ⟨w2, hw2⟩ : ∃ W, W = w1.alloc (.cells #[.int .i64 800, .int .i64 950] 2) := ⟨_, rfl⟩
  obtain ⟨w3, hw3⟩ : ∃ W, W = w2.alloc (.cells #[.int .i64 1, .int .i64 100, .int .i64 1000, .slice (some ⟨g1, 0, none⟩) 1 1, .slice (some ⟨g2, 0, none⟩) 2 2, .int .i64 9] 24) := ⟨_, rfl⟩
  have hs1 : w1.heap.size = w.heap.size + 1 := by rw [hw1]; simp
  have hs2 : w2.heap.size = w.heap.size + 1 + 1 := by rw [hw2]; simp [hs1]
  have hb1 : Below w.heap.size w w1 := by rw [hw1]; exact (Below.refl _ _).alloc (Nat.le_refl _) _
  have hb2 : Below w1.heap.size w1 w2 := by rw [hw2]; exact (Below.refl _ _).alloc (Nat.le_refl _) _
  have hb3 : Below w2.heap.size w2 w3 := by rw [hw3]; exact (Below.refl _ _).alloc (Nat.le_refl _) _
  have hr1 : w1.heap[g1]? = some (.cells #[.int .i64 500] 2 (0, 0)) := by rw [hw1, hg1]; exact heap_alloc_new w _
  have hr2 : w2.heap[g2]? = some (.cells #[.int .i64 800, .int .i64 950] 2 (0, 0)) := by rw [hw2, hg2, ← hs1]; exact heap_alloc_new w1 _
  have hk : KL w w3 B (kl1 g1 g2) [] := by
    refine ⟨(hb1.trans (hb2.mono hb1.size)).trans (hb3.mono (by omega)), by rw [hB, hw3, ← hs2]; exact heap_alloc_new w2 _, by omega, ⟨⟨?_, fun e => by cases e⟩, ⟨?_, fun e => by cases e⟩⟩, fun _ x e => ?_, fun _ x e => ?_, fun s hs => by cases hs⟩
    · refine Vals.below (Vals.below (vals_row [iv 500] hr1 fun i hi => ?_) hb2) hb3
      match i, hi with
      | 0, _ => rfl
    · refine Vals.below (vals_row [iv 800, iv 950] hr2 fun i hi => ?_) hb3
      match i, hi with
      | 0, _ => rfl
      | 1, _ => rfl
    · cases e; show g1 ≠ B; omega
    · cases e; show g2 ≠ B; omega
  have HK := Lib.hid hk
  have HJ1 := Lib.hid (hk.judge (k1_may g1 g2) k_63)
  rw [k1_dues, k1_skips] at HJ1
  obtain ⟨⟨c0, c1, c2⟩, c3, c4, c5⟩ := lobj_cells hk.row
  unfold kl1 Lt.val Lt.cells lcells at HJ1
  unfold kl1 at c0 c1 c2 c3 c4 c5
  dsimp only at c0 c1 c2 c3 c4 c5 HJ1
  have HW := Lib.hid (show w3 = ((w.alloc (.cells #[.int .i64 500] 2)).alloc (.cells #[.int .i64 800, .int .i64 950] 2)).alloc (.cells #[.int .i64 1, .int .i64 100, .int .i64 1000, .slice (some ⟨g1, 0, none⟩) 1 1, .slice (some ⟨g2, 0, none⟩) 2 2, .int .i64 9] 24) by rw [hw3, hw2, hw1])
  have HG1 := Lib.hid hg1
  have HG2 := Lib.hid hg2
  have HBB := Lib.hid hB
  clear hg1 hg2 hB hw1 hw2 hw3 hs1 hs2 hb1 hb2 hb3 hr1 hr2 hk
  go_enter Try.func4, Try.ntmps4
  go_wp2_with fail
  rw [← HBB.out, ← HG2.out, ← HG1.out, ← HW.out]
  refine HJ1.out.mono ?_
  rintro e w4 ⟨a1, b1, ca1, cb1, rfl, hk, -, -, -⟩
  clear HJ1 HK HG1 HG2 HBB HW c0 c1 c2 c3 c4 c5
  have fzpol := lfree (hk.row) 0
  have hk2 : KL w (w4.setCell ⟨B, 0, none⟩ (.int .i64 2)) B (kl2 g1 g2) _ := (hk.pol 2)
  have HJ := Lib.hid (hk2.judge (k2_may g1 g2) k_63)
  rw [k2_dues, k2_skips] at HJ
  obtain ⟨⟨c0, c1, c2⟩, c3, c4, c5⟩ := lobj_cells hk2.row
  obtain ⟨⟨d0, d1, d2⟩, d3, d4, d5⟩ := lobj_cells hk.row
  unfold kl2 Lt.val Lt.cells lcells at HJ
  unfold kl2 at c0 c1 c2 c3 c4 c5
  try unfold kl1 at d0 d1 d2 d3 d4 d5
  dsimp only at c0 c1 c2 c3 c4 c5 d0 d1 d2 d3 d4 d5 HJ
  have HK := Lib.hid hk
  clear hk hk2
  go_wp2_with fail
  refine HJ.out.mono ?_
  rintro e w5 ⟨a2, b2, ca2, cb2, rfl, hk, -, -, -⟩
  clear HJ HK c0 c1 c2 c3 c4 c5 d0 d1 d2 d3 d4 d5 fzpol
  have fzpol := lfree (hk.row) 0
  have hk2 : KL w (w5.setCell ⟨B, 0, none⟩ (.int .i64 3)) B (kl3 g1 g2) _ := (hk.pol 3)
  have HJ := Lib.hid (hk2.judge (k3_may g1 g2) k_63)
  rw [k3_dues, k3_skips] at HJ
  obtain ⟨⟨c0, c1, c2⟩, c3, c4, c5⟩ := lobj_cells hk2.row
  obtain ⟨⟨d0, d1, d2⟩, d3, d4, d5⟩ := lobj_cells hk.row
  unfold kl3 Lt.val Lt.cells lcells at HJ
  unfold kl3 at c0 c1 c2 c3 c4 c5
  try unfold kl2 at d0 d1 d2 d3 d4 d5
  dsimp only at c0 c1 c2 c3 c4 c5 d0 d1 d2 d3 d4 d5 HJ
  have HK := Lib.hid hk
  clear hk hk2
  go_wp2_with fail
  refine HJ.out.mono ?_
  rintro e w6 ⟨a3, b3, ca3, cb3, rfl, hk, -, -, -⟩
  clear HJ HK c0 c1 c2 c3 c4 c5 d0 d1 d2 d3 d4 d5 fzpol
  have fzpol := lfree (hk.row) 0
  have fzroom := lfree ((hk.pol 2).row) 5
  have hk2 : KL w ((w6.setCell ⟨B, 0, none⟩ (.int .i64 2)).setCell ⟨B, 5, none⟩ (.int .i64 2)) B (kl4 g1 g2) _ := ((hk.pol 2).room 2)
  have HJ := Lib.hid (hk2.judge (k4_may g1 g2) k_63)
  rw [k4_dues, k4_skips] at HJ
  obtain ⟨⟨c0, c1, c2⟩, c3, c4, c5⟩ := lobj_cells hk2.row
  obtain ⟨⟨d0, d1, d2⟩, d3, d4, d5⟩ := lobj_cells hk.row
  unfold kl4 Lt.val Lt.cells lcells at HJ
  unfold kl4 at c0 c1 c2 c3 c4 c5
  try unfold kl3 at d0 d1 d2 d3 d4 d5
  dsimp only at c0 c1 c2 c3 c4 c5 d0 d1 d2 d3 d4 d5 HJ
  have HK := Lib.hid hk
  clear hk hk2
  go_wp2_with fail
  refine HJ.out.mono ?_
  rintro e w7 ⟨a4, b4, ca4, cb4, rfl, hk, -, -, -⟩
  clear HJ HK c0 c1 c2 c3 c4 c5 d0 d1 d2 d3 d4 d5 fzpol fzroom
  have HK := Lib.hid hk
  clear hk
  have HS := Lib.hid (fun (s : Sl) hs => (HK.out.res s hs).1)
  go_wp2_with fail
  refine (same_lit (s := ⟨a1, [500, 950], ca1⟩) [500, 950] _ (HS.out _ (by simp)) rfl rfl (by decide)).mono ?_
  rintro e x0 ⟨rfl, hb⟩
  have HK := Lib.hid (HK.out.below hb)
  clear hb HS
  have HS := Lib.hid (fun (s : Sl) hs => (HK.out.res s hs).1)
  go_wp2_with fail
  refine (same_lit (s := ⟨b1, [800], cb1⟩) [800] _ (HS.out _ (by simp)) rfl rfl (by decide)).mono ?_
  rintro e x1 ⟨rfl, hb⟩
  have HK := Lib.hid (HK.out.below hb)
  clear hb HS
  have HS := Lib.hid (fun (s : Sl) hs => (HK.out.res s hs).1)
  go_wp2_with fail
  refine (same_lit (s := ⟨a2, [500, 800, 950], ca2⟩) [500, 800, 950] _ (HS.out _ (by simp)) rfl rfl (by decide)).mono ?_
  rintro e x2 ⟨rfl, hb⟩
  have HK := Lib.hid (HK.out.below hb)
  clear hb HS
  have HS := Lib.hid (fun (s : Sl) hs => (HK.out.res s hs).1)
  go_wp2_with fail
  refine (same_lit (s := ⟨a3, [950], ca3⟩) [950] _ (HS.out _ (by simp)) rfl rfl (by decide)).mono ?_
  rintro e x3 ⟨rfl, hb⟩
  have HK := Lib.hid (HK.out.below hb)
  clear hb HS
  have HS := Lib.hid (fun (s : Sl) hs => (HK.out.res s hs).1)
  go_wp2_with fail
  refine (same_lit (s := ⟨b3, [500, 800], cb3⟩) [500, 800] _ (HS.out _ (by simp)) rfl rfl (by decide)).mono ?_
  rintro e x4 ⟨rfl, hb⟩
  have HK := Lib.hid (HK.out.below hb)
  clear hb HS
  have HS := Lib.hid (fun (s : Sl) hs => (HK.out.res s hs).1)
  go_wp2_with fail
  refine (same_lit (s := ⟨a4, [500, 950], ca4⟩) [500, 950] _ (HS.out _ (by simp)) rfl rfl (by decide)).mono ?_
  rintro e x5 ⟨rfl, hb⟩
  have HK := Lib.hid (HK.out.below hb)
  clear hb HS
  have HS := Lib.hid (fun (s : Sl) hs => (HK.out.res s hs).1)
  go_wp2_with fail
  refine (same_lit (s := ⟨b4, [800], cb4⟩) [800] _ (HS.out _ (by simp)) rfl rfl (by decide)).mono ?_
  rintro e x6 ⟨rfl, hb⟩
  have HK := Lib.hid (HK.out.below hb)
  clear hb HS
  go_wp2_with fail
  go_ret
  exact ⟨rfl, HK.out.bel⟩
end Go.Proofs.Ytkhajpefnkialaa.Job
