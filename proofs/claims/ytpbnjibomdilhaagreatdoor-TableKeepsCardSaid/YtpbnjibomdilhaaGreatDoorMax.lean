/- The reference's Same, of a job and itself with its Deps elsewhere. The reference's Jobs, of two rows of the same jobs. -/
import Derived.Test.YtpbnjibomdilhaaGreatDoorOfT
import Derived.Deep.QuietTactic
import Derived.Deep.RegionHeld3
namespace Go.Proofs.YtpbnjibomdilhaaGreatDoor.Job
open Go.RowKit Go.Maps

theorem Drew.trans {a b c : World} (h : Drew a b) (k : Drew b c) : Drew a c := by
  obtain ⟨m, rfl⟩ := h
  exact k.elim fun n e => ⟨m + n, by rw [e]; simp [World.drewN, Nat.add_assoc]⟩
set_option maxRecDepth 100000 in
set_option maxHeartbeats 4000000 in
theorem same_any {w : World} (j : J) (a : Option Addr) (c : Nat) (h1 : JF w j) (h2 : JF w (j.at a c)) (hl : j.deps.length ≤ 1000) :
    Calls Tryz.prog 31 #[j.val, (j.at a c).val] w fun e w' => e = .returned (.bool true) ∧ Below w.heap.size w w' := by
  obtain ⟨id, name, expr, pol, gra, lim, ret, tim, da, dc, deps, pau, ver, seen⟩ := j
  obtain ⟨w2, hw2⟩ : ∃ W, W = (w.alloc (.cells #[.int .u64 id, .string name, .string expr, .int .i64 pol, .int .i64 gra, .int .i64 lim, .int .i64 ret, .int .i64 tim, .slice da deps.length dc, .bool pau, .int .u64 ver, .int .i64 seen] 29)).alloc (.cells #[.int .u64 id, .string name, .string expr, .int .i64 pol, .int .i64 gra, .int .i64 lim, .int .i64 ret, .int .i64 tim, .slice a deps.length c, .bool pau, .int .u64 ver, .int .i64 seen] 29) := ⟨_, rfl⟩
  have hb2 : Below w.heap.size w w2 := by rw [hw2]; exact ((Below.refl _ _).alloc (Nat.le_refl _) _).alloc (by simp) _
  have hj2 : w2.heap[w.heap.size]? = some (jobj ⟨id, name, expr, pol, gra, lim, ret, tim, da, dc, deps, pau, ver, seen⟩) := by rw [hw2]; exact (Below.heap_alloc _ _ _ (by simp)).trans (heap_alloc_new w _)
  have hm2 : w2.heap[w.heap.size + 1]? = some (jobj ⟨id, name, expr, pol, gra, lim, ret, tim, a, c, deps, pau, ver, seen⟩) := by
    rw [hw2]
    have := heap_alloc_new (w.alloc (.cells #[.int .u64 id, .string name, .string expr, .int .i64 pol, .int .i64 gra, .int .i64 lim, .int .i64 ret, .int .i64 tim, .slice da deps.length dc, .bool pau, .int .u64 ver, .int .i64 seen] 29)) (.cells #[.int .u64 id, .string name, .string expr, .int .i64 pol, .int .i64 gra, .int .i64 lim, .int .i64 ret, .int .i64 tim, .slice a deps.length c, .bool pau, .int .u64 ver, .int .i64 seen] 29)
    rw [show (w.alloc (.cells #[.int .u64 id, .string name, .string expr, .int .i64 pol, .int .i64 gra, .int .i64 lim, .int .i64 ret, .int .i64 tim, .slice da deps.length dc, .bool pau, .int .u64 ver, .int .i64 seen] 29)).heap.size = w.heap.size + 1 by simp] at this
    exact this
  have HV1 := Lib.hid (h1.vals.below hb2)
  have HV2 := Lib.hid (h2.vals.below hb2)
  have hn1 := name_eq name name
  have hn2 := name_eq expr expr
  rw [show decide (name = name) = true by simp] at hn1
  rw [show decide (expr = expr) = true by simp] at hn2
  have HW2 := Lib.hid hw2
  have HB2 := Lib.hid hb2
  have HJ2 := Lib.hid hj2
  have HM2 := Lib.hid hm2
  dsimp only [J.at] at HV1 HV2 hl
  have HL := Lib.hid hl
  clear h1 h2 hl hw2 hb2 hj2 hm2
  unfold J.val J.cells jcells J.at
  dsimp only
  go_enter Tryz.func31, Tryz.ntmps31
  go_wp2_with fail
  rw [← HW2.out]
  go_loopw [5] (fun v wr => ∃ i : Nat, v = .int .i64 (i : Int) ∧ i ≤ deps.length ∧ Drew w2 wr) (fun v _ => deps.length - (intOf v).toNat)
  case atStart => exact ⟨0, rfl, Nat.zero_le _, Drew.refl _⟩
  case round =>
    obtain ⟨i, rfl, hi, hdr⟩ := hrel
    obtain ⟨⟨c0, c1, c2, c3, c4, c5⟩, c6, c7, c8, c9, c10, c11⟩ := jobj_cells ((hdr.bel.block _ (lt_of_block HJ2.out)).trans HJ2.out)
    obtain ⟨⟨d0, d1, d2, d3, d4, d5⟩, d6, d7, d8, d9, d10, d11⟩ := jobj_cells ((hdr.bel.block _ (lt_of_block HM2.out)).trans HM2.out)
    dsimp only at c0 c1 c2 c3 c4 c5 c6 c7 c8 c9 c10 c11 d0 d1 d2 d3 d4 d5 d6 d7 d8 d9 d10 d11
    by_cases hlt : i < deps.length
    · have hne : deps.map uv ≠ [] := by intro e; have := congrArg List.length e; rw [List.length_map, List.length_nil] at this; omega
      obtain ⟨g1, q1, p1, p2⟩ := HV1.out.below hdr.bel
      obtain ⟨g2, q2, r1, r2⟩ := HV2.out.below hdr.bel
      have ea := p1 hne
      have eb := r1 hne
      cases ea
      cases eb
      have x1 := (p2 i (by rw [List.length_map]; exact hlt)).2
      have x2 := (r2 i (by rw [List.length_map]; exact hlt)).2
      rw [List.getElem_map] at x1 x2
      obtain ⟨x, hx⟩ : ∃ x, deps[i] = x := ⟨_, rfl⟩
      rw [hx] at x1 x2
      unfold uv at x1 x2
      have hd : decide ((i : Int) < (deps.length : Int)) = true := by simp; omega
      have hb0 : (0 : Int) ≤ i := by omega
      have hb1 : (i : Int) ≤ 1000 := by have := HL.out; omega
      have HDR := Lib.hid hdr
      clear hne p1 p2 r1 r2 hx hdr c0 c1 c2 c3 c4 c5 c6 c7 c9 c10 c11 d0 d1 d2 d3 d4 d5 d6 d7 d9 d10 d11
      go_wp2_with fail
      go_quiet (fail)
      go_wp2
      go_roundw
      case rel => exact ⟨i + 1, by go_num, hlt, HDR.out.trans ⟨_, rfl⟩⟩
      case measure => simp [intOf]; omega
    · have hd : decide ((i : Int) < (deps.length : Int)) = false := by simp; omega
      have HBB := Lib.hid (HB2.out.trans (hdr.bel.mono HB2.out.size))
      clear hdr
      go_wp2
      go_ret
      exact ⟨by first | rfl | simp, HBB.out⟩
end Go.Proofs.YtpbnjibomdilhaaGreatDoor.Job

namespace Go.Proofs.YtpbnjibomdilhaaGreatDoor.Job
open Go.RowKit Go.Maps

/-- the twelve cells of a job in a row -/
def Cells12 (w : World) (g q i : Nat) (j : J) : Prop := ∀ c, c < 12 → w.cell? ⟨g, q + (i * 12 + c), none⟩ = (encJ j)[c]?
theorem Cells12.below {w w' : World} {g q i : Nat} {j : J} (h : Cells12 w g q i j) (hg : g < w.heap.size) (hb : Below w.heap.size w w') : Cells12 w' g q i j := fun c hc => (hb.cell (p := ⟨g, q + (i * 12 + c), none⟩) hg).trans (h c hc)
set_option maxRecDepth 100000 in
set_option maxHeartbeats 8000000 in
theorem jobs_any {w : World} {a1 a2 : Option Addr} {n1 n2 : Nat} {l1 l2 : List J} (h1 : JobsF w a1 l1) (h2 : JobsF w a2 l2) (hb : l1.map J.bare = l2.map J.bare) (hl : l1.length ≤ 1000) (hd : ∀ j ∈ l1, j.deps.length ≤ 1000) :
    Calls Tryz.prog 15 #[.slice a1 l1.length n1, .slice a2 l2.length n2] w fun e w' => e = .returned (.bool true) ∧ Below w.heap.size w w' := by
  have hlen : l2.length = l1.length := by have := congrArg List.length hb; simpa using this.symm
  have H1 := Lib.hid h1
  have H2 := Lib.hid h2
  have HBR := Lib.hid hb
  have HL := Lib.hid hl
  have HD := Lib.hid hd
  have HLEN := Lib.hid hlen
  rw [hlen]
  clear h1 h2 hb hl hd hlen
  go_enter Tryz.func15, Tryz.ntmps15
  go_wp2_with fail
  go_loopw [5] (fun v wr => ∃ i : Nat, v = .int .i64 (i : Int) ∧ i ≤ l1.length ∧ Below w.heap.size w wr) (fun v _ => l1.length - (intOf v).toNat)
  case atStart => exact ⟨0, rfl, Nat.zero_le _, Below.refl _ _⟩
  case round =>
    obtain ⟨i, rfl, hi, hbel⟩ := hrel
    by_cases hlt : i < l1.length
    · have hlt2 : i < l2.length := by rw [HLEN.out]; exact hlt
      obtain ⟨⟨g1, q1, p1, p2⟩, p3⟩ := H1.out
      obtain ⟨⟨g2, q2, r1, r2⟩, r3⟩ := H2.out
      have ea := p1 (by intro e; rw [e] at hlt; simp at hlt)
      have eb := r1 (by intro e; rw [e] at hlt2; simp at hlt2)
      cases ea
      cases eb
      obtain ⟨hg1, hc1⟩ := p2 i hlt
      obtain ⟨hg2, hc2⟩ := r2 i hlt2
      have hjb := bares_at HBR.out hlt hlt2
      have hf1 := p3 l1[i] (List.getElem_mem hlt)
      have hf2 := r3 l2[i] (List.getElem_mem hlt2)
      have hdd := HD.out l1[i] (List.getElem_mem hlt)
      obtain ⟨x, hx⟩ : ∃ x, l1[i] = x := ⟨_, rfl⟩
      obtain ⟨y, hy⟩ : ∃ y, l2[i] = y := ⟨_, rfl⟩
      rw [hx] at hc1 hjb hf1 hdd
      rw [hy] at hc2 hjb hf2
      have hyx := bare_eq hjb
      have HYX := Lib.hid hyx
      have hd : decide ((i : Int) < (l1.length : Int)) = true := by simp; omega
      have hb0 : (0 : Int) ≤ i := by omega
      have hb1 : (i : Int) ≤ 1000 := by have := HL.out; omega
      obtain ⟨u, hu⟩ : ∃ u, u = wr.drew := ⟨_, rfl⟩
      have hbu : Below w.heap.size w u := by rw [hu]; exact hbel.drew
      have hs1 : Cells12 u g1 q1 i x := fun c hc => (hbu.cell (p := ⟨g1, q1 + (i * 12 + c), none⟩) hg1).trans (hc1 c hc)
      have hs2 : Cells12 u g2 q2 i y := fun c hc => (hbu.cell (p := ⟨g2, q2 + (i * 12 + c), none⟩) hg2).trans (hc2 c hc)
      have HSAME := Lib.hid (same_any (w := u) x y.da y.dc (hf1.below hbu) (by rw [← hyx]; exact hf2.below hbu) hdd)
      rw [← hyx] at HSAME
      have HU := Lib.hid hu
      have HBU := Lib.hid hbu
      have HS1 := Lib.hid hs1
      have HS2 := Lib.hid hs2
      have HG := Lib.hid (show g1 < u.heap.size ∧ g2 < u.heap.size from ⟨Nat.lt_of_lt_of_le hg1 hbu.size, Nat.lt_of_lt_of_le hg2 hbu.size⟩)
      unfold J.val J.cells jcells at HSAME
      clear p1 p2 p3 r1 r2 r3 hc1 hc2 hjb hf1 hf2 hdd hx hy hyx hu hbu hs1 hs2 hbel hg1 hg2
      go_wp2_with fail
      refine wp_region_held_drew (S := fun W => Cells12 W g1 q1 i x ∧ Cells12 W g2 q2 i y) (by kernel_rfl) (by rw [← HU.out]; exact ⟨HS1.out, HS2.out⟩) (fun hHeld => ?_)
      rw [← HU.out] at hHeld ⊢
      refine wpAnyH_take (i := 0) (oi := ?_) (v := ?_) ?_ (by kernel_rfl) (by kernel_rfl) (by kernel_rfl) ?_ (Or.inl ⟨?_, ?_⟩) (by assumption) ?_
      rotate_left 2
      focus (simp only [List.getElem?_toArray, List.getElem?_cons_zero]; rfl)
      focus exact fun _ _ _ h => h
      focus rfl
      focus (intro W hS; (try dsimp only at hS); obtain ⟨hS1, hS2⟩ := hS; obtain ⟨⟨k0, k1, k2, k3, k4, k5⟩, k6, k7, k8, k9, k10, k11⟩ := JobsF.cells hS1; obtain ⟨⟨m0, m1, m2, m3, m4, m5⟩, m6, m7, m8, m9, m10, m11⟩ := JobsF.cells hS2; clear hS1 hS2; go_simp; (try with_reducible rfl))
      try simp only [Act.put]
      try simp only [List.setIfInBounds_toArray]
      try simp only [List.set_cons_succ]
      try simp only [List.set_cons_zero]
      refine wpAnyH_take (i := 1) (oi := ?_) (v := ?_) ?_ (by kernel_rfl) (by kernel_rfl) (by kernel_rfl) ?_ (Or.inl ⟨?_, ?_⟩) (by assumption) ?_
      rotate_left 2
      focus (simp only [List.getElem?_toArray, List.getElem?_cons_succ, List.getElem?_cons_zero]; rfl)
      focus exact fun _ _ _ h => h
      focus rfl
      focus (intro W hS; (try dsimp only at hS); obtain ⟨hS1, hS2⟩ := hS; obtain ⟨⟨k0, k1, k2, k3, k4, k5⟩, k6, k7, k8, k9, k10, k11⟩ := JobsF.cells hS1; obtain ⟨⟨m0, m1, m2, m3, m4, m5⟩, m6, m7, m8, m9, m10, m11⟩ := JobsF.cells hS2; clear hS1 hS2; go_simp; (try with_reducible rfl))
      try simp only [Act.put]
      try simp only [List.setIfInBounds_toArray]
      try simp only [List.set_cons_succ]
      try simp only [List.set_cons_zero]
      refine wpAnyH_take (i := 2) (oi := ?_) (v := ?_) ?_ (by kernel_rfl) (by kernel_rfl) (by kernel_rfl) ?_ (Or.inl ⟨?_, ?_⟩) (by assumption) ?_
      rotate_left 2
      focus (simp only [List.getElem?_toArray, List.getElem?_cons_succ, List.getElem?_cons_zero]; rfl)
      focus exact fun _ _ _ h => h
      focus rfl
      focus (intro W hS; (try dsimp only at hS); obtain ⟨hS1, hS2⟩ := hS; obtain ⟨⟨k0, k1, k2, k3, k4, k5⟩, k6, k7, k8, k9, k10, k11⟩ := JobsF.cells hS1; obtain ⟨⟨m0, m1, m2, m3, m4, m5⟩, m6, m7, m8, m9, m10, m11⟩ := JobsF.cells hS2; clear hS1 hS2; go_simp; (try with_reducible rfl))
      try simp only [Act.put]
      try simp only [List.setIfInBounds_toArray]
      try simp only [List.set_cons_succ]
      try simp only [List.set_cons_zero]
      refine wpAnyH_take (i := 3) (oi := ?_) (v := ?_) ?_ (by kernel_rfl) (by kernel_rfl) (by kernel_rfl) ?_ (Or.inl ⟨?_, ?_⟩) (by assumption) ?_
      rotate_left 2
      focus (simp only [List.getElem?_toArray, List.getElem?_cons_succ, List.getElem?_cons_zero]; rfl)
      focus exact fun _ _ _ h => h
      focus rfl
      focus (intro W hS; (try dsimp only at hS); obtain ⟨hS1, hS2⟩ := hS; obtain ⟨⟨k0, k1, k2, k3, k4, k5⟩, k6, k7, k8, k9, k10, k11⟩ := JobsF.cells hS1; obtain ⟨⟨m0, m1, m2, m3, m4, m5⟩, m6, m7, m8, m9, m10, m11⟩ := JobsF.cells hS2; clear hS1 hS2; go_simp; (try with_reducible rfl))
      try simp only [Act.put]
      try simp only [List.setIfInBounds_toArray]
      try simp only [List.set_cons_succ]
      try simp only [List.set_cons_zero]
      refine wpAnyH_take (i := 4) (oi := ?_) (v := ?_) ?_ (by kernel_rfl) (by kernel_rfl) (by kernel_rfl) ?_ (Or.inl ⟨?_, ?_⟩) (by assumption) ?_
      rotate_left 2
      focus (simp only [List.getElem?_toArray, List.getElem?_cons_succ, List.getElem?_cons_zero]; rfl)
      focus exact fun _ _ _ h => h
      focus rfl
      focus (intro W hS; (try dsimp only at hS); obtain ⟨hS1, hS2⟩ := hS; obtain ⟨⟨k0, k1, k2, k3, k4, k5⟩, k6, k7, k8, k9, k10, k11⟩ := JobsF.cells hS1; obtain ⟨⟨m0, m1, m2, m3, m4, m5⟩, m6, m7, m8, m9, m10, m11⟩ := JobsF.cells hS2; clear hS1 hS2; go_simp; (try with_reducible rfl))
      try simp only [Act.put]
      try simp only [List.setIfInBounds_toArray]
      try simp only [List.set_cons_succ]
      try simp only [List.set_cons_zero]
      refine wpAnyH_take (i := 5) (oi := ?_) (v := ?_) ?_ (by kernel_rfl) (by kernel_rfl) (by kernel_rfl) ?_ (Or.inl ⟨?_, ?_⟩) (by assumption) ?_
      rotate_left 2
      focus (simp only [List.getElem?_toArray, List.getElem?_cons_succ, List.getElem?_cons_zero]; rfl)
      focus exact fun _ _ _ h => h
      focus rfl
      focus (intro W hS; (try dsimp only at hS); obtain ⟨hS1, hS2⟩ := hS; obtain ⟨⟨k0, k1, k2, k3, k4, k5⟩, k6, k7, k8, k9, k10, k11⟩ := JobsF.cells hS1; obtain ⟨⟨m0, m1, m2, m3, m4, m5⟩, m6, m7, m8, m9, m10, m11⟩ := JobsF.cells hS2; clear hS1 hS2; go_simp; (try with_reducible rfl))
      try simp only [Act.put]
      try simp only [List.setIfInBounds_toArray]
      try simp only [List.set_cons_succ]
      try simp only [List.set_cons_zero]
      refine wpAnyH_take (i := 6) (oi := ?_) (v := ?_) ?_ (by kernel_rfl) (by kernel_rfl) (by kernel_rfl) ?_ (Or.inl ⟨?_, ?_⟩) (by assumption) ?_
      rotate_left 2
      focus (simp only [List.getElem?_toArray, List.getElem?_cons_succ, List.getElem?_cons_zero]; rfl)
      focus exact fun _ _ _ h => h
      focus rfl
      focus (intro W hS; (try dsimp only at hS); obtain ⟨hS1, hS2⟩ := hS; obtain ⟨⟨k0, k1, k2, k3, k4, k5⟩, k6, k7, k8, k9, k10, k11⟩ := JobsF.cells hS1; obtain ⟨⟨m0, m1, m2, m3, m4, m5⟩, m6, m7, m8, m9, m10, m11⟩ := JobsF.cells hS2; clear hS1 hS2; go_simp; (try with_reducible rfl))
      try simp only [Act.put]
      try simp only [List.setIfInBounds_toArray]
      try simp only [List.set_cons_succ]
      try simp only [List.set_cons_zero]
      refine wpAnyH_take (i := 7) (oi := ?_) (v := ?_) ?_ (by kernel_rfl) (by kernel_rfl) (by kernel_rfl) ?_ (Or.inl ⟨?_, ?_⟩) (by assumption) ?_
      rotate_left 2
      focus (simp only [List.getElem?_toArray, List.getElem?_cons_succ, List.getElem?_cons_zero]; rfl)
      focus exact fun _ _ _ h => h
      focus rfl
      focus (intro W hS; (try dsimp only at hS); obtain ⟨hS1, hS2⟩ := hS; obtain ⟨⟨k0, k1, k2, k3, k4, k5⟩, k6, k7, k8, k9, k10, k11⟩ := JobsF.cells hS1; obtain ⟨⟨m0, m1, m2, m3, m4, m5⟩, m6, m7, m8, m9, m10, m11⟩ := JobsF.cells hS2; clear hS1 hS2; go_simp; (try with_reducible rfl))
      try simp only [Act.put]
      try simp only [List.setIfInBounds_toArray]
      try simp only [List.set_cons_succ]
      try simp only [List.set_cons_zero]
      refine wpAnyH_ready (rs := [8]) (by kernel_rfl) (by simp) ?_
      refine AllReadyH.cons (o := ?_) ?_ (fun K hK => ?_) AllReadyH.nil
      rotate_left
      focus (simp only [List.getElem?_toArray, List.getElem?_cons_succ, List.getElem?_cons_zero]; rfl)
      rw [if_pos (by rfl)]
      go_simp
      refine HSAME.out.mono ?_
      rintro e w3 ⟨rfl, hb3⟩
      have HS3 := Lib.hid (show Cells12 w3 g1 q1 i x ∧ Cells12 w3 g2 q2 i y from ⟨HS1.out.below HG.out.1 hb3, HS2.out.below HG.out.2 hb3⟩)
      have HB3 := Lib.hid (HBU.out.trans (hb3.mono HBU.out.size))
      clear hb3 HSAME
      go_simp
      refine hK.out _ _ HS3.out (fun hHeld => ?_)
      clear hK K
      try simp only [Act.put]
      try simp only [List.setIfInBounds_toArray]
      try simp only [List.set_cons_succ]
      try simp only [List.set_cons_zero]
      refine wpAnyH_take (i := 9) (oi := ?_) (v := ?_) ?_ (by kernel_rfl) (by kernel_rfl) (by kernel_rfl) ?_ (Or.inl ⟨?_, ?_⟩) (by assumption) ?_
      rotate_left 2
      focus (simp only [List.getElem?_toArray, List.getElem?_cons_succ, List.getElem?_cons_zero]; rfl)
      focus exact fun _ _ _ h => h
      focus rfl
      focus (intro W hS; (try dsimp only at hS); obtain ⟨hS1, hS2⟩ := hS; obtain ⟨⟨k0, k1, k2, k3, k4, k5⟩, k6, k7, k8, k9, k10, k11⟩ := JobsF.cells hS1; obtain ⟨⟨m0, m1, m2, m3, m4, m5⟩, m6, m7, m8, m9, m10, m11⟩ := JobsF.cells hS2; clear hS1 hS2; go_simp; (try with_reducible rfl))
      try simp only [Act.put]
      try simp only [List.setIfInBounds_toArray]
      try simp only [List.set_cons_succ]
      try simp only [List.set_cons_zero]
      refine wpAnyH_done (by kernel_rfl) ?_ _
      clear hHeld
      go_wp2
      go_roundw
      case rel => exact ⟨i + 1, by go_num, hlt, HB3.out⟩
      case measure => simp [intOf]; omega
    · have hd : decide ((i : Int) < (l1.length : Int)) = false := by simp; omega
      have HBB := Lib.hid hbel
      clear hbel
      go_wp2
      go_ret
      exact ⟨rfl, HBB.out⟩
end Go.Proofs.YtpbnjibomdilhaaGreatDoor.Job
