/- TokenTidy: its walk. -/
import Derived.Test.YtjpbniajhkindaaTidyM
import Derived.Test.YtjpbniajhkindaaOpsT
namespace Go.Proofs.Ytjpbniajhkindaa
open Go.RowKit Go.Maps Go.Sort Dsk Tok

set_option maxRecDepth 100000 in
set_option maxHeartbeats 8000000 in
theorem tidy_law (l : List OpV) (a : Option Addr) (cp job t : Nat) (hj : job < top64) (ht : t < top64) (w : World) (hl : OpsF w a l) :
    Calls Try.prog 4 #[.slice a l.length cp, .int .u64 (job : Int), .int .u64 (t : Int)] w fun e w' => e = .returned (.bool true) ∧ Below w.heap.size w w' := by
  have HKN := Lib.hid (known12_any w)
  have HL := Lib.hid hl
  have HJT := Lib.hid (And.intro hj ht)
  clear hl hj ht
  go_enter Try.func4, Try.ntmps4
  go_wp2_with fail
  refine HKN.out.mono ?_
  rintro e w1 ⟨rfl, hb1⟩
  have HB1 := Lib.hid hb1
  clear hb1 HKN
  by_cases c1 : 60 < l.length
  · have d1 : decide ((60 : Int) < (l.length : Int)) = true := by simp; omega
    go_wp2_with fail
    go_ret
    exact ⟨rfl, HB1.out⟩
  have d1 : decide ((60 : Int) < (l.length : Int)) = false := by simp; omega
  have HNEW := Lib.hid (new_tk w1)
  go_wp2_with fail
  refine HNEW.out.mono ?_
  rintro e w2 ⟨rfl, hb2, o1, hd1⟩
  have HNEW2 := Lib.hid (new_tk w2)
  have HD1 := Lib.hid hd1
  have HB2 := Lib.hid hb2
  clear hb2 hd1 HNEW
  go_wp2_with fail
  refine HNEW2.out.mono ?_
  rintro e w3 ⟨rfl, hb3, o2, hd2⟩
  have HO1 := Lib.hid (open_tk (HD1.out.below hb3) (by simp))
  have HD2 := Lib.hid hd2
  have HB3 := Lib.hid hb3
  clear hb3 hd2 HNEW2
  go_wp2_with fail
  refine HO1.out.mono ?_
  rintro e w4 ⟨k1, b1, rfl, ht1, hb4, hk1, hbb1⟩
  have HO2 := Lib.hid (open_tk (HD2.out.below hb4) (by simp))
  have HT1 := Lib.hid ht1
  have HB4 := Lib.hid hb4
  clear ht1 hb4 HO1
  go_wp2_with fail
  refine HO2.out.mono ?_
  rintro e w5 ⟨k2, b2, rfl, ht2, hb5, hk2, hbb2⟩
  have hs2 := HB2.out.size
  have hs3 := HB3.out.size
  have hs4 := HB4.out.size
  have htwo : Two w1 w5 ⟨w1.heap.size, w1.heap.size + 1, o1, [], k1, b1, fun _ => 0, 0⟩ ⟨w2.heap.size, w2.heap.size + 1, o2, [], k2, b2, fun _ => 0, 0⟩ := by
    refine ⟨⟨HT1.out.below hb5, Nat.le_refl _, rfl⟩, ⟨ht2, Nat.le_refl _, rfl⟩, fun i h1 h2 => ?_, ((HB2.out.trans (HB3.out.mono hs2)).trans (HB4.out.mono (by omega))).trans (hb5.mono (by omega)), ⟨by dsimp only; omega, Nat.le_refl _⟩, ⟨by dsimp only; omega, hs2⟩⟩
    have e1 := HD1.out.owns i
    have e2 := HD2.out.owns i
    have e3 := HT1.out.lt
    unfold In at h1 h2
    dsimp only at h1 h2
    rcases h1 with h1 | h1 | h1 <;> rcases h2 with h2 | h2 | h2 <;> first | (have := e1 h1; have := e2 h2; omega) | (have := e1 h1; omega) | (have := e2 h2; omega) | omega
  have HTW0 := Lib.hid htwo
  clear htwo ht2 hb5 hk1 hk2 hbb1 hbb2 hs2 hs3 hs4 HO2 HT1 HD1 HD2 HB2 HB3 HB4 d1
  go_wp2_with fail
  go_loopw [13] (fun vi wr => ∃ (i : Nat) (o1 o2 : Tags) (rs1 rs2 : List (Nat × Nat)) (f : Nat → Nat), vi = .int .i64 i ∧ i ≤ l.length ∧ Two w1 wr ⟨w1.heap.size, w1.heap.size + 1, o1, rs1, k1, b1, f, i⟩ ⟨w2.heap.size, w2.heap.size + 1, o2, rs2, k2, b2, f, i⟩) (fun vi _ => l.length - (intOf vi).toNat)
  case atStart => exact ⟨0, o1, o2, [], [], _, rfl, Nat.zero_le _, HTW0.out⟩
  case round =>
    clear HTW0 o1 o2
    obtain ⟨i, o1, o2, rs1, rs2, f, rfl, hi, htw⟩ := hrel
    by_cases hin : i < l.length
    · obtain ⟨ob, q, rfl, hblt, h0, h1, h2, h3, h4⟩ := HL.out.cell i hin
      obtain ⟨ov, hov⟩ : ∃ ov, ov = l[i] := ⟨_, rfl⟩
      have hom : ov ∈ l := by rw [hov]; exact List.getElem_mem hin
      rw [← hov] at h0 h1 h2 h3 h4
      obtain ⟨kind, oj, ot, sa, sc, ss, ba, bl, bc⟩ := ov
      dsimp only at h0 h1 h2 h3 h4
      have HOM := Lib.hid (HL.out.fit _ hom)
      have HC := Lib.hid (show ∀ W, Below w1.heap.size w1 W → W.cell? ⟨ob, q + i * 5, none⟩ = some (.int .i64 kind) ∧ W.cell? ⟨ob, q + i * 5 + 1, none⟩ = some (.int .u64 (oj : Int)) ∧ W.cell? ⟨ob, q + i * 5 + 2, none⟩ = some (.int .u64 (ot : Int)) from fun W hb => by
        have hbw := HB1.out.trans (hb.mono HB1.out.size)
        exact ⟨(hbw.cell (p := ⟨ob, q + i * 5, none⟩) hblt).trans h0, (hbw.cell (p := ⟨ob, q + i * 5 + 1, none⟩) hblt).trans h1, (hbw.cell (p := ⟨ob, q + i * 5 + 2, none⟩) hblt).trans h2⟩)
      clear hov hom h0 h1 h2 h3 h4 hblt
      have HTW1 := Lib.hid (htw.below (show Below wr.heap.size wr wr.drew from (Below.refl _ _).drew))
      clear htw
      obtain ⟨cE, hcE⟩ : ∃ c, c = accE f oj ot := ⟨_, rfl⟩
      have HA1 := Lib.hid (two_accept HTW1.out (by dsimp only; omega) HOM.out.1 HOM.out.2.1)
      try dsimp only at HA1
      rw [← hcE] at HA1
      have HCE := Lib.hid hcE
      clear hcE
      go_upto_region 13 with fail
      refine wp_region_held_drew (S := fun W => W.cell? ⟨ob, q + i * 5 + 1, none⟩ = some (.int .u64 (oj : Int)) ∧ W.cell? ⟨ob, q + i * 5 + 2, none⟩ = some (.int .u64 (ot : Int))) (by kernel_rfl) (HC.out _ HTW1.out.bel).2 (fun hHeld => ?_)
      refine wpAnyH_take (i := 0) (oi := ?_) (v := ?_) ?_ (by kernel_rfl) (by kernel_rfl) (by kernel_rfl) ?_ (Or.inl ⟨?_, ?_⟩) (by assumption) ?_
      rotate_left 2
      focus (simp only [List.getElem?_toArray, List.getElem?_cons_zero]; rfl)
      focus exact fun _ _ _ h => h
      focus rfl
      focus (intro W hS; (try dsimp only at hS); have q1 := hS.1; have q2 := hS.2; go_simp; (try with_reducible rfl))
      try simp only [Act.put]
      try simp only [List.setIfInBounds_toArray]
      try simp only [List.set_cons_succ]
      try simp only [List.set_cons_zero]
      refine wpAnyH_take (i := 1) (oi := ?_) (v := ?_) ?_ (by kernel_rfl) (by kernel_rfl) (by kernel_rfl) ?_ (Or.inl ⟨?_, ?_⟩) (by assumption) ?_
      rotate_left 2
      focus (simp only [List.getElem?_toArray, List.getElem?_cons_succ, List.getElem?_cons_zero]; rfl)
      focus exact fun _ _ _ h => h
      focus rfl
      focus (intro W hS; (try dsimp only at hS); have q1 := hS.1; have q2 := hS.2; go_simp; (try with_reducible rfl))
      try simp only [Act.put]
      try simp only [List.setIfInBounds_toArray]
      try simp only [List.set_cons_succ]
      try simp only [List.set_cons_zero]
      refine wpAnyH_take (i := 2) (oi := ?_) (v := ?_) ?_ (by kernel_rfl) (by kernel_rfl) (by kernel_rfl) ?_ (Or.inl ⟨?_, ?_⟩) (by assumption) ?_
      rotate_left 2
      focus (simp only [List.getElem?_toArray, List.getElem?_cons_succ, List.getElem?_cons_zero]; rfl)
      focus exact fun _ _ _ h => h
      focus rfl
      focus (intro W hS; (try dsimp only at hS); have q1 := hS.1; have q2 := hS.2; go_simp; (try with_reducible rfl))
      try simp only [Act.put]
      try simp only [List.setIfInBounds_toArray]
      try simp only [List.set_cons_succ]
      try simp only [List.set_cons_zero]
      refine wpAnyH_take (i := 3) (oi := ?_) (v := ?_) ?_ (by kernel_rfl) (by kernel_rfl) (by kernel_rfl) ?_ (Or.inl ⟨?_, ?_⟩) (by assumption) ?_
      rotate_left 2
      focus (simp only [List.getElem?_toArray, List.getElem?_cons_succ, List.getElem?_cons_zero]; rfl)
      focus exact fun _ _ _ h => h
      focus rfl
      focus (intro W hS; (try dsimp only at hS); have q1 := hS.1; have q2 := hS.2; go_simp; (try with_reducible rfl))
      try simp only [Act.put]
      try simp only [List.setIfInBounds_toArray]
      try simp only [List.set_cons_succ]
      try simp only [List.set_cons_zero]
      refine wpAnyH_take (i := 4) (oi := ?_) (v := ?_) ?_ (by kernel_rfl) (by kernel_rfl) (by kernel_rfl) ?_ (Or.inl ⟨?_, ?_⟩) (by assumption) ?_
      rotate_left 2
      focus (simp only [List.getElem?_toArray, List.getElem?_cons_succ, List.getElem?_cons_zero]; rfl)
      focus exact fun _ _ _ h => h
      focus rfl
      focus (intro W hS; (try dsimp only at hS); have q1 := hS.1; have q2 := hS.2; go_simp; (try with_reducible rfl))
      try simp only [Act.put]
      try simp only [List.setIfInBounds_toArray]
      try simp only [List.set_cons_succ]
      try simp only [List.set_cons_zero]
      refine wpAnyH_take (i := 5) (oi := ?_) (v := ?_) ?_ (by kernel_rfl) (by kernel_rfl) (by kernel_rfl) ?_ (Or.inl ⟨?_, ?_⟩) (by assumption) ?_
      rotate_left 2
      focus (simp only [List.getElem?_toArray, List.getElem?_cons_succ, List.getElem?_cons_zero]; rfl)
      focus exact fun _ _ _ h => h
      focus rfl
      focus (intro W hS; (try dsimp only at hS); have q1 := hS.1; have q2 := hS.2; go_simp; (try with_reducible rfl))
      try simp only [Act.put]
      try simp only [List.setIfInBounds_toArray]
      try simp only [List.set_cons_succ]
      try simp only [List.set_cons_zero]
      refine wpAnyH_take (i := 6) (oi := ?_) (v := ?_) ?_ (by kernel_rfl) (by kernel_rfl) (by kernel_rfl) ?_ (Or.inl ⟨?_, ?_⟩) (by assumption) ?_
      rotate_left 2
      focus (simp only [List.getElem?_toArray, List.getElem?_cons_succ, List.getElem?_cons_zero]; rfl)
      focus exact fun _ _ _ h => h
      focus rfl
      focus (intro W hS; (try dsimp only at hS); have q1 := hS.1; have q2 := hS.2; go_simp; (try with_reducible rfl))
      try simp only [Act.put]
      try simp only [List.setIfInBounds_toArray]
      try simp only [List.set_cons_succ]
      try simp only [List.set_cons_zero]
      refine wpAnyH_take (i := 7) (oi := ?_) (v := ?_) ?_ (by kernel_rfl) (by kernel_rfl) (by kernel_rfl) ?_ (Or.inl ⟨?_, ?_⟩) (by assumption) ?_
      rotate_left 2
      focus (simp only [List.getElem?_toArray, List.getElem?_cons_succ, List.getElem?_cons_zero]; rfl)
      focus exact fun _ _ _ h => h
      focus rfl
      focus (intro W hS; (try dsimp only at hS); have q1 := hS.1; have q2 := hS.2; go_simp; (try with_reducible rfl))
      try simp only [Act.put]
      try simp only [List.setIfInBounds_toArray]
      try simp only [List.set_cons_succ]
      try simp only [List.set_cons_zero]
      refine wpAnyH_take (i := 8) (oi := ?_) (v := ?_) ?_ (by kernel_rfl) (by kernel_rfl) (by kernel_rfl) ?_ (Or.inl ⟨?_, ?_⟩) (by assumption) ?_
      rotate_left 2
      focus (simp only [List.getElem?_toArray, List.getElem?_cons_succ, List.getElem?_cons_zero]; rfl)
      focus exact fun _ _ _ h => h
      focus rfl
      focus (intro W hS; (try dsimp only at hS); have q1 := hS.1; have q2 := hS.2; go_simp; (try with_reducible rfl))
      try simp only [Act.put]
      try simp only [List.setIfInBounds_toArray]
      try simp only [List.set_cons_succ]
      try simp only [List.set_cons_zero]
      refine wpAnyH_take (i := 9) (oi := ?_) (v := ?_) ?_ (by kernel_rfl) (by kernel_rfl) (by kernel_rfl) ?_ (Or.inl ⟨?_, ?_⟩) (by assumption) ?_
      rotate_left 2
      focus (simp only [List.getElem?_toArray, List.getElem?_cons_succ, List.getElem?_cons_zero]; rfl)
      focus exact fun _ _ _ h => h
      focus rfl
      focus (intro W hS; (try dsimp only at hS); have q1 := hS.1; have q2 := hS.2; go_simp; (try with_reducible rfl))
      try simp only [Act.put]
      try simp only [List.setIfInBounds_toArray]
      try simp only [List.set_cons_succ]
      try simp only [List.set_cons_zero]
      refine wpAnyH_take (i := 10) (oi := ?_) (v := ?_) ?_ (by kernel_rfl) (by kernel_rfl) (by kernel_rfl) ?_ (Or.inl ⟨?_, ?_⟩) (by assumption) ?_
      rotate_left 2
      focus (simp only [List.getElem?_toArray, List.getElem?_cons_succ, List.getElem?_cons_zero]; rfl)
      focus exact fun _ _ _ h => h
      focus rfl
      focus (intro W hS; (try dsimp only at hS); have q1 := hS.1; have q2 := hS.2; go_simp; (try with_reducible rfl))
      try simp only [Act.put]
      try simp only [List.setIfInBounds_toArray]
      try simp only [List.set_cons_succ]
      try simp only [List.set_cons_zero]
      refine wpAnyH_take (i := 12) (oi := ?_) (v := ?_) ?_ (by kernel_rfl) (by kernel_rfl) (by kernel_rfl) ?_ (Or.inl ⟨?_, ?_⟩) (by assumption) ?_
      rotate_left 2
      focus (simp only [List.getElem?_toArray, List.getElem?_cons_succ, List.getElem?_cons_zero]; rfl)
      focus exact fun _ _ _ h => h
      focus rfl
      focus (intro W hS; (try dsimp only at hS); have q1 := hS.1; have q2 := hS.2; go_simp; (try with_reducible rfl))
      try simp only [Act.put]
      try simp only [List.setIfInBounds_toArray]
      try simp only [List.set_cons_succ]
      try simp only [List.set_cons_zero]
      refine wpAnyH_take (i := 13) (oi := ?_) (v := ?_) ?_ (by kernel_rfl) (by kernel_rfl) (by kernel_rfl) ?_ (Or.inl ⟨?_, ?_⟩) (by assumption) ?_
      rotate_left 2
      focus (simp only [List.getElem?_toArray, List.getElem?_cons_succ, List.getElem?_cons_zero]; rfl)
      focus exact fun _ _ _ h => h
      focus rfl
      focus (intro W hS; (try dsimp only at hS); have q1 := hS.1; have q2 := hS.2; go_simp; (try with_reducible rfl))
      try simp only [Act.put]
      try simp only [List.setIfInBounds_toArray]
      try simp only [List.set_cons_succ]
      try simp only [List.set_cons_zero]
      refine wpAnyH_take (i := 14) (oi := ?_) (v := ?_) ?_ (by kernel_rfl) (by kernel_rfl) (by kernel_rfl) ?_ (Or.inl ⟨?_, ?_⟩) (by assumption) ?_
      rotate_left 2
      focus (simp only [List.getElem?_toArray, List.getElem?_cons_succ, List.getElem?_cons_zero]; rfl)
      focus exact fun _ _ _ h => h
      focus rfl
      focus (intro W hS; (try dsimp only at hS); have q1 := hS.1; have q2 := hS.2; go_simp; (try with_reducible rfl))
      try simp only [Act.put]
      try simp only [List.setIfInBounds_toArray]
      try simp only [List.set_cons_succ]
      try simp only [List.set_cons_zero]
      refine wpAnyH_take (i := 15) (oi := ?_) (v := ?_) ?_ (by kernel_rfl) (by kernel_rfl) (by kernel_rfl) ?_ (Or.inl ⟨?_, ?_⟩) (by assumption) ?_
      rotate_left 2
      focus (simp only [List.getElem?_toArray, List.getElem?_cons_succ, List.getElem?_cons_zero]; rfl)
      focus exact fun _ _ _ h => h
      focus rfl
      focus (intro W hS; (try dsimp only at hS); have q1 := hS.1; have q2 := hS.2; go_simp; (try with_reducible rfl))
      try simp only [Act.put]
      try simp only [List.setIfInBounds_toArray]
      try simp only [List.set_cons_succ]
      try simp only [List.set_cons_zero]
      refine wpAnyH_take (i := 16) (oi := ?_) (v := ?_) ?_ (by kernel_rfl) (by kernel_rfl) (by kernel_rfl) ?_ (Or.inl ⟨?_, ?_⟩) (by assumption) ?_
      rotate_left 2
      focus (simp only [List.getElem?_toArray, List.getElem?_cons_succ, List.getElem?_cons_zero]; rfl)
      focus exact fun _ _ _ h => h
      focus rfl
      focus (intro W hS; (try dsimp only at hS); have q1 := hS.1; have q2 := hS.2; go_simp; (try with_reducible rfl))
      try simp only [Act.put]
      try simp only [List.setIfInBounds_toArray]
      try simp only [List.set_cons_succ]
      try simp only [List.set_cons_zero]
      refine wpAnyH_take (i := 17) (oi := ?_) (v := ?_) ?_ (by kernel_rfl) (by kernel_rfl) (by kernel_rfl) ?_ (Or.inl ⟨?_, ?_⟩) (by assumption) ?_
      rotate_left 2
      focus (simp only [List.getElem?_toArray, List.getElem?_cons_succ, List.getElem?_cons_zero]; rfl)
      focus exact fun _ _ _ h => h
      focus rfl
      focus (intro W hS; (try dsimp only at hS); have q1 := hS.1; have q2 := hS.2; go_simp; (try with_reducible rfl))
      try simp only [Act.put]
      try simp only [List.setIfInBounds_toArray]
      try simp only [List.set_cons_succ]
      try simp only [List.set_cons_zero]
      refine wpAnyH_take (i := 18) (oi := ?_) (v := ?_) ?_ (by kernel_rfl) (by kernel_rfl) (by kernel_rfl) ?_ (Or.inl ⟨?_, ?_⟩) (by assumption) ?_
      rotate_left 2
      focus (simp only [List.getElem?_toArray, List.getElem?_cons_succ, List.getElem?_cons_zero]; rfl)
      focus exact fun _ _ _ h => h
      focus rfl
      focus (intro W hS; (try dsimp only at hS); have q1 := hS.1; have q2 := hS.2; go_simp; (try with_reducible rfl))
      try simp only [Act.put]
      try simp only [List.setIfInBounds_toArray]
      try simp only [List.set_cons_succ]
      try simp only [List.set_cons_zero]
      refine wpAnyH_take (i := 19) (oi := ?_) (v := ?_) ?_ (by kernel_rfl) (by kernel_rfl) (by kernel_rfl) ?_ (Or.inl ⟨?_, ?_⟩) (by assumption) ?_
      rotate_left 2
      focus (simp only [List.getElem?_toArray, List.getElem?_cons_succ, List.getElem?_cons_zero]; rfl)
      focus exact fun _ _ _ h => h
      focus rfl
      focus (intro W hS; (try dsimp only at hS); have q1 := hS.1; have q2 := hS.2; go_simp; (try with_reducible rfl))
      try simp only [Act.put]
      try simp only [List.setIfInBounds_toArray]
      try simp only [List.set_cons_succ]
      try simp only [List.set_cons_zero]
      refine wpAnyH_take (i := 20) (oi := ?_) (v := ?_) ?_ (by kernel_rfl) (by kernel_rfl) (by kernel_rfl) ?_ (Or.inl ⟨?_, ?_⟩) (by assumption) ?_
      rotate_left 2
      focus (simp only [List.getElem?_toArray, List.getElem?_cons_succ, List.getElem?_cons_zero]; rfl)
      focus exact fun _ _ _ h => h
      focus rfl
      focus (intro W hS; (try dsimp only at hS); have q1 := hS.1; have q2 := hS.2; go_simp; (try with_reducible rfl))
      try simp only [Act.put]
      try simp only [List.setIfInBounds_toArray]
      try simp only [List.set_cons_succ]
      try simp only [List.set_cons_zero]
      refine wpAnyH_take (i := 21) (oi := ?_) (v := ?_) ?_ (by kernel_rfl) (by kernel_rfl) (by kernel_rfl) ?_ (Or.inl ⟨?_, ?_⟩) (by assumption) ?_
      rotate_left 2
      focus (simp only [List.getElem?_toArray, List.getElem?_cons_succ, List.getElem?_cons_zero]; rfl)
      focus exact fun _ _ _ h => h
      focus rfl
      focus (intro W hS; (try dsimp only at hS); have q1 := hS.1; have q2 := hS.2; go_simp; (try with_reducible rfl))
      try simp only [Act.put]
      try simp only [List.setIfInBounds_toArray]
      try simp only [List.set_cons_succ]
      try simp only [List.set_cons_zero]
      refine wpAnyH_take (i := 22) (oi := ?_) (v := ?_) ?_ (by kernel_rfl) (by kernel_rfl) (by kernel_rfl) ?_ (Or.inl ⟨?_, ?_⟩) (by assumption) ?_
      rotate_left 2
      focus (simp only [List.getElem?_toArray, List.getElem?_cons_succ, List.getElem?_cons_zero]; rfl)
      focus exact fun _ _ _ h => h
      focus rfl
      focus (intro W hS; (try dsimp only at hS); have q1 := hS.1; have q2 := hS.2; go_simp; (try with_reducible rfl))
      try simp only [Act.put]
      try simp only [List.setIfInBounds_toArray]
      try simp only [List.set_cons_succ]
      try simp only [List.set_cons_zero]
      refine wpAnyH_ready (rs := [11]) (by kernel_rfl) (by simp) ?_
      refine AllReadyH.cons (o := ?_) ?_ (fun K hK => ?_) AllReadyH.nil
      rotate_left
      focus (simp only [List.getElem?_toArray, List.getElem?_cons_succ, List.getElem?_cons_zero]; rfl)
      rw [if_pos (by rfl)]
      go_simp
      refine HA1.out.mono ?_
      rintro e w6 ⟨rfl, o1', h6⟩
      have HTW := Lib.hid h6
      try dsimp only at HTW
      clear h6
      go_wp2_with fail
      refine hK.out _ _ ?_ (fun hHeld => ?_)
      focus exact (HC.out _ HTW.out.bel).2
      clear hK K
      try simp only [Act.put]
      try simp only [List.setIfInBounds_toArray]
      try simp only [List.set_cons_succ]
      try simp only [List.set_cons_zero]
      have HA2 := Lib.hid (two_accept HTW.out.swap (by dsimp only; omega) HOM.out.1 HOM.out.2.1)
      try dsimp only at HA2
      rw [← HCE.out] at HA2
      clear HA1 HTW1
      refine wpAnyH_ready (rs := [23]) (by kernel_rfl) (by simp) ?_
      refine AllReadyH.cons (o := ?_) ?_ (fun K hK => ?_) AllReadyH.nil
      rotate_left
      focus (simp only [List.getElem?_toArray, List.getElem?_cons_succ, List.getElem?_cons_zero]; rfl)
      rw [if_pos (by rfl)]
      go_simp
      refine HA2.out.mono ?_
      rintro e w7 ⟨rfl, o2', h7⟩
      clear HTW
      have HTW := Lib.hid h7.swap
      try dsimp only at HTW
      clear h7
      go_wp2_with fail
      refine hK.out _ _ ?_ (fun hHeld => ?_)
      focus exact (HC.out _ HTW.out.bel).2
      clear hK K
      try simp only [Act.put]
      try simp only [List.setIfInBounds_toArray]
      try simp only [List.set_cons_succ]
      try simp only [List.set_cons_zero]
      refine wpAnyH_take (i := 24) (oi := ?_) (v := ?_) ?_ (by kernel_rfl) (by kernel_rfl) (by kernel_rfl) ?_ (Or.inl ⟨?_, ?_⟩) (by assumption) ?_
      rotate_left 2
      focus (simp only [List.getElem?_toArray, List.getElem?_cons_succ, List.getElem?_cons_zero]; rfl)
      focus exact fun _ _ _ h => h
      focus rfl
      focus (intro W hS; (try dsimp only at hS); have q1 := hS.1; have q2 := hS.2; go_simp; (try with_reducible rfl))
      try simp only [Act.put]
      try simp only [List.setIfInBounds_toArray]
      try simp only [List.set_cons_succ]
      try simp only [List.set_cons_zero]
      refine wpAnyH_done (by kernel_rfl) ?_ _
      clear HA2
      try clear hHeld
      have x0 := (HC.out _ HTW.out.bel).1
      obtain ⟨rA, hrA⟩ : ∃ r, r = accR f rs1 oj ot := ⟨_, rfl⟩
      obtain ⟨rB, hrB⟩ : ∃ r, r = accR f rs2 oj ot := ⟨_, rfl⟩
      obtain ⟨fA, hfA⟩ : ∃ r, r = accF f oj ot := ⟨_, rfl⟩
      have htw := HTW.out
      rw [← hrA, ← hrB, ← hfA] at htw
      have HTW8 := Lib.hid htw
      clear HTW htw hrA hrB hfA HCE HOM
      by_cases hk1 : kind = 1
      · subst hk1
        have HTD := Lib.hid (two_tidy HTW8.out (by dsimp only; omega))
        try dsimp only at HTD
        go_wp2_with fail
        refine HTD.out.mono ?_
        rintro e w8 ⟨rfl, o9, K, _, htw⟩
        have HTW9 := Lib.hid htw
        clear htw HTD HTW8 x0
        go_wp2_with fail
        go_roundw
        case rel => exact ⟨i + 1, o9, o2', _, rB, fA, by go_num, by omega, HTW9.out⟩
        case measure => simp [intOf]; omega
      · have dk1 : (kind == 1) = false := by simpa using hk1
        go_wp2_with fail
        go_roundw
        case rel => exact ⟨i + 1, o1', o2', rA, rB, fA, by go_num, by omega, HTW8.out⟩
        case measure => simp [intOf]; omega
    · obtain rfl : i = l.length := by omega
      have HTD := Lib.hid (two_tidy htw (by dsimp only; omega))
      try dsimp only at HTD
      clear htw hi hin
      go_wp2_with fail
      refine HTD.out.mono ?_
      rintro e w6 ⟨rfl, o3, K, hK, htw⟩
      have hle := tidied_small hK htw.two.tops
      obtain ⟨rs3, hrs3⟩ : ∃ r, r = tidied f K := ⟨_, rfl⟩
      rw [← hrs3] at hle htw
      have HR1 := Lib.hid (read_tk htw.one.tk)
      try dsimp only at HR1 hle
      obtain ⟨ls, hls⟩ : ∃ n, n = (img rs3).length := ⟨_, rfl⟩
      obtain ⟨ll, hll⟩ : ∃ n, n = (img rs2).length := ⟨_, rfl⟩
      rw [← hls] at HR1
      rw [← hls, ← hll] at hle
      have HLL := Lib.hid hll
      have HTW6 := Lib.hid htw
      clear hrs3 hls hll htw hK HTD
      go_wp2_with fail
      refine HR1.out.mono ?_
      rintro e w7 ⟨a7, c7, th7, rfl, hb7⟩
      have htw := HTW6.out.below hb7
      have HR2 := Lib.hid (read_tk htw.two.tk)
      try dsimp only at HR2
      rw [← HLL.out] at HR2
      have HTW7 := Lib.hid htw
      clear htw hb7 HTW6 HR1
      go_wp2_with fail
      refine HR2.out.mono ?_
      rintro e w8 ⟨a8, c8, th8, rfl, hb8⟩
      have htw := HTW7.out.below hb8
      have HCR := Lib.hid (two_crash htw)
      try dsimp only at HCR
      clear htw hb8 HTW7 HR2 HLL
      go_wp2_with fail
      refine HCR.out.mono ?_
      rintro e w9 ⟨rfl, o4, htw⟩
      try dsimp only at htw
      have HOP := Lib.hid (two_open htw (by dsimp only; omega))
      try dsimp only at HOP
      clear htw HCR
      go_wp2_with fail
      refine HOP.out.mono ?_
      rintro e w10 ⟨k3, b3, rfl, hold, hnew⟩
      have hl3 : rs3.length ≤ l.length := hold.one.len
      have HJ1 := Lib.hid (two_jobs hnew.one (by dsimp only; omega))
      try dsimp only at HJ1
      have HOLD := Lib.hid hold
      have HNEW := Lib.hid hnew
      have z1 : decide ((ll : Int) < (ls : Int)) = false := by simp; omega
      have z2 : decide (ls ≤ ll) = true := by simpa using hle
      have z3 : (ls ≤ ll) = True := by simpa using hle
      clear hold hnew HOP
      go_wp2_with fail
      refine HJ1.out.mono ?_
      rintro e w11 ⟨a11, c11, K1, rfl, hK1, hb11⟩
      have hold := HOLD.out.below hb11
      have hnew := HNEW.out.below hb11
      have HJ2 := Lib.hid (two_jobs hnew.two (by dsimp only; omega))
      try dsimp only at HJ2
      clear HOLD HNEW HJ1 hb11
      have HOLD := Lib.hid hold
      have HNEW := Lib.hid hnew
      have HK1 := Lib.hid hK1
      clear hold hnew hK1
      go_wp2_with fail
      refine HJ2.out.mono ?_
      rintro e w12 ⟨a12, c12, K2, rfl, hK2, hb12⟩
      rw [show K2.length = K1.length from jobs_len hK2 HK1.out]
      have hold := HOLD.out.below hb12
      have hnew := HNEW.out.below hb12
      obtain ⟨cf, hcf⟩ : ∃ c, c = f job := ⟨_, rfl⟩
      have HT1 := Lib.hid (two_top hold.one HJT.out.1)
      have HT2 := Lib.hid (two_top hold.two HJT.out.1)
      have HT3 := Lib.hid (two_top hnew.one HJT.out.1)
      have HT4 := Lib.hid (two_top hnew.two HJT.out.1)
      try dsimp only at HT1 HT2 HT3 HT4
      rw [← hcf] at HT1 HT2 HT3 HT4
      clear HOLD HNEW HJ2 hb12 HK1 hK2 hold hcf
      have HA1 := Lib.hid (two_accept hnew (by dsimp only; omega) HJT.out.1 HJT.out.2)
      try dsimp only at HA1
      obtain ⟨cE, hcE⟩ : ∃ c, c = accE f job t := ⟨_, rfl⟩
      rw [← hcE] at HA1
      have HCE := Lib.hid hcE
      clear hnew hcE
      go_wp2_with fail
      refine HT1.out.mono ?_
      rintro e w13 ⟨rfl, rfl⟩
      go_wp2_with fail
      refine HT2.out.mono ?_
      rintro e w13 ⟨rfl, rfl⟩
      go_wp2_with fail
      refine HT3.out.mono ?_
      rintro e w13 ⟨rfl, rfl⟩
      go_wp2_with fail
      refine HT4.out.mono ?_
      rintro e w13 ⟨rfl, rfl⟩
      clear HT1 HT2 HT3 HT4
      go_wp2_with fail
      refine HA1.out.mono ?_
      rintro e w14 ⟨rfl, o5, htw⟩
      have HA2 := Lib.hid (two_accept htw.swap (by dsimp only; omega) HJT.out.1 HJT.out.2)
      try dsimp only at HA2
      rw [← HCE.out] at HA2
      clear HA1 htw
      go_wp2_with fail
      refine HA2.out.mono ?_
      rintro e w15 ⟨rfl, o6, htw⟩
      obtain ⟨cg, hcg⟩ : ∃ c, c = accF f job t job := ⟨_, rfl⟩
      have HT1 := Lib.hid (two_top htw.two HJT.out.1)
      have HT2 := Lib.hid (two_top htw.one HJT.out.1)
      try dsimp only at HT1 HT2
      rw [← hcg] at HT1 HT2
      have HBE := Lib.hid (HB1.out.trans (htw.bel.mono HB1.out.size))
      clear HA2 htw hcg
      go_wp2_with fail
      refine HT1.out.mono ?_
      rintro e w16 ⟨rfl, rfl⟩
      go_wp2_with fail
      refine HT2.out.mono ?_
      rintro e w16 ⟨rfl, rfl⟩
      go_wp2_with fail
      go_ret
      exact ⟨rfl, HBE.out⟩

end Go.Proofs.Ytjpbniajhkindaa
