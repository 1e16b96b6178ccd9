/- VoteFiles: its walk. -/
import Derived.Test.YtaljfpkgancidaaRfA
import Derived.Test.YtaljfpkgancidaaKnown11
namespace Go.Proofs.Ytaljfpkgancidaa
open Go.RowKit Go.Maps Go.Sort Dsk

set_option maxRecDepth 100000 in
set_option maxHeartbeats 1000000 in
/-- two shots that are the same -/
theorem refSame_eq (i t : Nat) (a1 a2 : Option Addr) (c1 c2 : Nat) (img : List Int) (w : World) (h1 : Reads w a1 img) (h2 : Reads w a2 img) :
    Calls Try.prog 18 #[.agg #[.int .u64 (i : Int), .int .u64 (t : Int), .slice a1 img.length c1], .agg #[.int .u64 (i : Int), .int .u64 (t : Int), .slice a2 img.length c2]] w fun e w' => e = .returned (.bool true) ∧ Below w.heap.size w w' := by
  obtain ⟨wA, hwA⟩ : ∃ wA, wA = (w.alloc (.cells #[.int .u64 (i : Int), .int .u64 (t : Int), .slice a1 img.length c1] 27)).alloc (.cells #[.int .u64 (i : Int), .int .u64 (t : Int), .slice a2 img.length c2] 27) := ⟨_, rfl⟩
  have hbA : Below w.heap.size w wA := by rw [hwA]; exact ((Below.refl _ _).alloc (Nat.le_refl _) _).alloc (by simp) _
  have v1 := (h1.below hbA).text img.length c1 rfl
  have v2 := (h2.below hbA).text img.length c2 rfl
  generalize strOfNums img = S at v1 v2
  have HB := Lib.hid hbA
  rw [hwA] at v1 v2
  have HWA := Lib.hid hwA
  clear h1 h2 hbA hwA
  go_enter Try.func18, Try.ntmps18
  go_wp2_with fail
  go_ret
  rw [← HWA.out]
  exact ⟨rfl, HB.out⟩

theorem getV_form (r : Option (Nat × Nat)) : ∃ n m er : Nat, getV r = .tuple #[.agg #[.int .u64 (n : Int), .int .u64 (m : Int)], .int .i64 (er : Int)] := by
  cases r with
  | none => exact ⟨0, 0, 4, rfl⟩
  | some p => exact ⟨p.1, p.2, 0, rfl⟩
theorem keptV_form {bs : List Int} {r : Option Vt.Shot} (h : Vt.KeptIs bs r) : ∃ (i t er : Nat) (I : List Int), ∀ w w' e, KeptV w w' e r → ∃ a c, e = .returned (.tuple #[.agg #[.int .u64 (i : Int), .int .u64 (t : Int), .slice a I.length c], .int .i64 (er : Int)]) ∧ Reads w' a I := by
  cases h with
  | no _ => exact ⟨0, 0, 4, [], fun w w' e he => ⟨none, 0, he, Reads.nil _ _⟩⟩
  | yes s hok _ =>
    refine ⟨s.i, s.t, 0, s.img, fun w w' e he => ?_⟩
    obtain ⟨v, rfl, hr⟩ := he
    obtain ⟨a, c, rfl, hh, _⟩ := row_src hr hok.hr (by have := hok.hl; omega)
    exact ⟨a, c, rfl, hh.reads⟩
theorem no_loose {M : Files} {ks : List Name} (h : NamesOf M (fun f => f.loose) ks) (hn : ∀ n f, M n = some f → f.loose = false) : ks = [] := by
  cases ks with
  | nil => rfl
  | cons k r =>
    obtain ⟨f, h1, h2⟩ := (h.2 k).1 (by simp)
    have h3 : f.loose = true := h2
    rw [hn k f h1] at h3
    cases h3

set_option maxRecDepth 100000 in
set_option maxHeartbeats 8000000 in
theorem votefiles_any (t v i s : Nat) (sa : Option Addr) (sc : Nat) (simg : List Int) (a : Option Addr) (ac : Nat) (abs : List Int) (b : Option Addr) (bc : Nat) (bbs : List Int) (w : World)
    (ht : t < 18446744073709551616) (hv : v < 18446744073709551616) (hi : i < 18446744073709551616) (hs : s < 18446744073709551616) (hsr : Reads w sa simg) (hsc : simg.length ≤ sc) (har : Reads w a abs) (hac : abs.length ≤ ac) (ham : ac ≤ 9223372036854775807) (han : a = none → ac = 0) (hbr : Reads w b bbs) (hbc : bbs.length ≤ bc) (hbm : bc ≤ 9223372036854775807) (hbn : b = none → bc = 0) :
    Calls Try.prog 3 #[.agg #[.int .u64 (t : Int), .int .u64 (v : Int)], .agg #[.int .u64 (i : Int), .int .u64 (s : Int), .slice sa simg.length sc], .slice a abs.length ac, .slice b bbs.length bc] w fun r w' => r = .returned (.bool true) ∧ Below w.heap.size w w' := by
  obtain ⟨wA, hwA⟩ : ∃ wA, wA = (w.alloc (.cells #[.int .u64 (t : Int), .int .u64 (v : Int)] 24)).alloc (.cells #[.int .u64 (i : Int), .int .u64 (s : Int), .slice sa simg.length sc] 27) := ⟨_, rfl⟩
  have hbA : Below w.heap.size w wA := by rw [hwA]; exact ((Below.refl _ _).alloc (Nat.le_refl _) _).alloc (by simp) _
  have hpb : wA.heap[w.heap.size]? = some (.cells #[.int .u64 (t : Int), .int .u64 (v : Int)] 24 (0, 0)) := by rw [hwA]; exact (Below.heap_alloc _ _ _ (by simp)).trans (heap_alloc_new w _)
  have hsb : wA.heap[w.heap.size + 1]? = some (.cells #[.int .u64 (i : Int), .int .u64 (s : Int), .slice sa simg.length sc] 27 (0, 0)) := by
    rw [hwA]
    have := heap_alloc_new (w.alloc (.cells #[.int .u64 (t : Int), .int .u64 (v : Int)] 24)) (.cells #[.int .u64 (i : Int), .int .u64 (s : Int), .slice sa simg.length sc] 27)
    rwa [World.size_alloc] at this
  have HKN := Lib.hid (known11_any wA)
  rw [hwA] at HKN
  have HWA := Lib.hid hwA
  have HBA := Lib.hid hbA
  have HPB := Lib.hid hpb
  have HSB := Lib.hid hsb
  have HNM := Lib.hid (show (t < 18446744073709551616 ∧ v < 18446744073709551616) ∧ i < 18446744073709551616 ∧ s < 18446744073709551616 from ⟨⟨ht, hv⟩, hi, hs⟩)
  have HSR := Lib.hid (And.intro hsr hsc)
  have HAR := Lib.hid (show Reads w a abs ∧ abs.length ≤ ac ∧ ac ≤ 9223372036854775807 ∧ (a = none → ac = 0) from ⟨har, hac, ham, han⟩)
  have HBR := Lib.hid (show Reads w b bbs ∧ bbs.length ≤ bc ∧ bc ≤ 9223372036854775807 ∧ (b = none → bc = 0) from ⟨hbr, hbc, hbm, hbn⟩)
  clear ht hv hi hs hsr hsc har hac ham han hbr hbc hbm hbn hwA hbA hpb hsb
  go_enter Try.func3, Try.ntmps3
  go_wp2_with fail
  refine HKN.out.mono ?_
  rintro r w1 ⟨rfl, hb1⟩
  rw [← HWA.out] at hb1
  have HPB1 := Lib.hid ((hb1.block _ (lt_of_block HPB.out)).trans HPB.out)
  have HSB1 := Lib.hid ((hb1.block _ (lt_of_block HSB.out)).trans HSB.out)
  have HB1 := Lib.hid (HBA.out.trans (hb1.mono HBA.out.size))
  have hw1 : w.heap.size + 2 ≤ w1.heap.size := by have := lt_of_block HSB1.out; omega
  clear hb1 HKN HWA HBA HPB HSB
  obtain ⟨s0, s1, s2⟩ := three_at HSB1.out
  by_cases cA : 9000 < abs.length
  · have dA : decide ((9000 : Int) < (abs.length : Int)) = true := by simp; omega
    by_cases c1 : simg.length ≤ 9000
    · have d1 : decide ((9000 : Int) < (simg.length : Int)) = false := by simp; omega
      go_wp2_with fail
      go_ret
      exact ⟨rfl, HB1.out⟩
    have d1 : decide ((9000 : Int) < (simg.length : Int)) = true := by simp; omega
    by_cases c2 : simg.length = 262144
    · have d2 : ((simg.length : Int) != 262144) = false := by rw [c2]; rfl
      clear c2
      go_wp2_with fail
      go_ret
      exact ⟨rfl, HB1.out⟩
    have d2 : ((simg.length : Int) != 262144) = true := by rw [bne_iff_ne]; omega
    by_cases c3 : simg.length = 262145
    · have d3 : ((simg.length : Int) != 262145) = false := by rw [c3]; rfl
      clear c3
      go_wp2_with fail
      go_ret
      exact ⟨rfl, HB1.out⟩
    have d3 : ((simg.length : Int) != 262145) = true := by rw [bne_iff_ne]; omega
    go_wp2_with fail
    go_ret
    exact ⟨rfl, HB1.out⟩
  have dA : decide ((9000 : Int) < (abs.length : Int)) = false := by simp; omega
  by_cases cB : 9000 < bbs.length
  · have dB : decide ((9000 : Int) < (bbs.length : Int)) = true := by simp; omega
    by_cases c1 : simg.length ≤ 9000
    · have d1 : decide ((9000 : Int) < (simg.length : Int)) = false := by simp; omega
      go_wp2_with fail
      go_ret
      exact ⟨rfl, HB1.out⟩
    have d1 : decide ((9000 : Int) < (simg.length : Int)) = true := by simp; omega
    by_cases c2 : simg.length = 262144
    · have d2 : ((simg.length : Int) != 262144) = false := by rw [c2]; rfl
      clear c2
      go_wp2_with fail
      go_ret
      exact ⟨rfl, HB1.out⟩
    have d2 : ((simg.length : Int) != 262144) = true := by rw [bne_iff_ne]; omega
    by_cases c3 : simg.length = 262145
    · have d3 : ((simg.length : Int) != 262145) = false := by rw [c3]; rfl
      clear c3
      go_wp2_with fail
      go_ret
      exact ⟨rfl, HB1.out⟩
    have d3 : ((simg.length : Int) != 262145) = true := by rw [bne_iff_ne]; omega
    go_wp2_with fail
    go_ret
    exact ⟨rfl, HB1.out⟩
  have dB : decide ((9000 : Int) < (bbs.length : Int)) = false := by simp; omega
  have HAB := Lib.hid (show abs.length ≤ 9000 ∧ bbs.length ≤ 9000 by omega)
  clear cA cB
  have HNEW := Lib.hid (new_any w1)
  by_cases c1 : simg.length ≤ 9000
  · have d1 : decide ((9000 : Int) < (simg.length : Int)) = false := by simp; omega
    have hLE : simg.length ≤ 262144 := by omega
    clear c1
    go_wp2_with fail
    refine HNEW.out.mono ?_
    rintro e w2 ⟨rfl, hb2, o2, hd2, ho2⟩
    have hl2 : Liv w2 w1.heap.size o2 (w1.heap.size + 1) (fun _ => none) 0 := ⟨hd2, hb2.size, (fun l f hf => by cases hf), by decide⟩
    have HIN := Lib.hid (show ∀ W, Below w1.heap.size w1 W → (W.cell? ⟨w.heap.size, 0, none⟩ = some (.int .u64 (t : Int)) ∧ W.cell? ⟨w.heap.size, 1, none⟩ = some (.int .u64 (v : Int))) ∧ W.cell? ⟨w.heap.size + 1, 0, none⟩ = some (.int .u64 (i : Int)) ∧ W.cell? ⟨w.heap.size + 1, 1, none⟩ = some (.int .u64 (s : Int)) ∧ W.cell? ⟨w.heap.size + 1, 2, none⟩ = some (.slice sa simg.length sc) from fun W h =>
      ⟨two_at ((h.block _ (lt_of_block HPB1.out)).trans HPB1.out), three_at ((h.block _ (lt_of_block HSB1.out)).trans HSB1.out)⟩)
    have HL2 := Lib.hid hl2
    have HB2 := Lib.hid hb2
    clear hl2 hd2 hb2 ho2 s0 s1 s2 HNEW
    go_wp2_with fail
    refine wp_region_held_drew (S := (fun W => (W.cell? ⟨w.heap.size, 0, none⟩ = some (.int .u64 (t : Int)) ∧ W.cell? ⟨w.heap.size, 1, none⟩ = some (.int .u64 (v : Int))) ∧ W.cell? ⟨w.heap.size + 1, 0, none⟩ = some (.int .u64 (i : Int)) ∧ W.cell? ⟨w.heap.size + 1, 1, none⟩ = some (.int .u64 (s : Int)) ∧ W.cell? ⟨w.heap.size + 1, 2, none⟩ = some (.slice sa simg.length sc))) (by kernel_rfl) (HIN.out _ HB2.out.drew) (fun hHeld => ?_)
    refine wpAnyH_take (i := 0) (oi := ?_) (v := ?_) ?_ (by kernel_rfl) (by kernel_rfl) (by kernel_rfl) ?_ (Or.inl ⟨?_, ?_⟩) (by assumption) ?_
    rotate_left 2
    focus (simp only [List.getElem?_toArray, List.getElem?_cons_zero]; rfl)
    focus exact fun _ _ _ h => h
    focus rfl
    focus (intro W hS; (try dsimp only at hS); go_simp; (try with_reducible rfl))
    try simp only [Act.put]
    try simp only [List.setIfInBounds_toArray]
    try simp only [List.set_cons_succ]
    try simp only [List.set_cons_zero]
    refine wpAnyH_take (i := 1) (oi := ?_) (v := ?_) ?_ (by kernel_rfl) (by kernel_rfl) (by kernel_rfl) ?_ (Or.inl ⟨?_, ?_⟩) (by assumption) ?_
    rotate_left 2
    focus (simp only [List.getElem?_toArray, List.getElem?_cons_succ, List.getElem?_cons_zero]; rfl)
    focus exact fun _ _ _ h => h
    focus rfl
    focus (intro W hS; (try dsimp only at hS); obtain ⟨⟨p0, p1⟩, u0, u1, u2⟩ := hS; go_simp; (try with_reducible rfl))
    try simp only [Act.put]
    try simp only [List.setIfInBounds_toArray]
    try simp only [List.set_cons_succ]
    try simp only [List.set_cons_zero]
    refine wpAnyH_take (i := 3) (oi := ?_) (v := ?_) ?_ (by kernel_rfl) (by kernel_rfl) (by kernel_rfl) ?_ (Or.inl ⟨?_, ?_⟩) (by assumption) ?_
    rotate_left 2
    focus (simp only [List.getElem?_toArray, List.getElem?_cons_succ, List.getElem?_cons_zero]; rfl)
    focus exact fun _ _ _ h => h
    focus rfl
    focus (intro W hS; (try dsimp only at hS); go_simp; (try with_reducible rfl))
    try simp only [Act.put]
    try simp only [List.setIfInBounds_toArray]
    try simp only [List.set_cons_succ]
    try simp only [List.set_cons_zero]
    refine wpAnyH_take (i := 4) (oi := ?_) (v := ?_) ?_ (by kernel_rfl) (by kernel_rfl) (by kernel_rfl) ?_ (Or.inl ⟨?_, ?_⟩) (by assumption) ?_
    rotate_left 2
    focus (simp only [List.getElem?_toArray, List.getElem?_cons_succ, List.getElem?_cons_zero]; rfl)
    focus exact fun _ _ _ h => h
    focus rfl
    focus (intro W hS; (try dsimp only at hS); obtain ⟨⟨p0, p1⟩, u0, u1, u2⟩ := hS; go_simp; (try with_reducible rfl))
    try simp only [Act.put]
    try simp only [List.setIfInBounds_toArray]
    try simp only [List.set_cons_succ]
    try simp only [List.set_cons_zero]
    refine wpAnyH_ready (rs := [2]) (by kernel_rfl) (by simp) ?_
    refine AllReadyH.cons (o := ?_) ?_ (fun K hK => ?_) AllReadyH.nil
    rotate_left
    focus (simp only [List.getElem?_toArray, List.getElem?_cons_succ, List.getElem?_cons_zero]; rfl)
    rw [if_pos (by rfl)]
    go_simp
    have HPT := Lib.hid (voteput_any (w1.heap.size + 1) w1.heap.size 0 o2 (fun _ => none) t v w2.drew (HL2.out.below ⟨rfl, rfl, rfl, Nat.le_refl _, fun _ _ => rfl⟩) HNM.out.1.1 HNM.out.1.2)
    refine HPT.out.mono ?_
    rintro r w3 ⟨rfl, o3, hd3, hs3⟩
    have hl2d := HL2.out.below (w' := w2.drew) ⟨rfl, rfl, rfl, Nat.le_refl _, fun _ _ => rfl⟩
    have hl3 := hl2d.put hs3 hd3 (by decide) (by decide)
    obtain ⟨N3, hN3⟩ : ∃ N3, N3 = cntN (fun _ => none : Files) voteN 0 := ⟨_, rfl⟩
    have hN3b : N3 ≤ 1 := by have := cntN_le (fun _ => none : Files) voteN 0; omega
    obtain ⟨M3, hM3⟩ : ∃ M3, M3 = upd (fun _ => none : Files) voteN (some (sureF (Vt.voteOf t v))) := ⟨_, rfl⟩
    rw [← hN3, ← hM3] at hl3
    have HL3 := Lib.hid hl3
    have HM3 := Lib.hid hM3
    have HB3 := Lib.hid (show Below w1.heap.size w1 w3 from HB2.out.trans ((show Below w1.heap.size w2 w2.drew from ⟨rfl, rfl, rfl, Nat.le_refl _, fun _ _ => rfl⟩).trans (hs3.below (fun k e => hl2d.disk.owns k e) hl2d.hB)))
    clear hl2d hl3 hd3 hs3 hN3 hM3 HPT
    go_wp2_with fail
    refine hK.out _ _ (HIN.out _ HB3.out) (fun hHeld => ?_)
    clear hK K
    try simp only [Act.put]
    try simp only [List.setIfInBounds_toArray]
    try simp only [List.set_cons_succ]
    try simp only [List.set_cons_zero]
    refine wpAnyH_ready (rs := [5]) (by kernel_rfl) (by simp) ?_
    refine AllReadyH.cons (o := ?_) ?_ (fun K hK => ?_) AllReadyH.nil
    rotate_left
    focus (simp only [List.getElem?_toArray, List.getElem?_cons_succ, List.getElem?_cons_zero]; rfl)
    rw [if_pos (by rfl)]
    go_simp
    have HKP := Lib.hid (keep_any (w1.heap.size + 1) w1.heap.size N3 o3 M3 i s sa sc simg w3 HL3.out HNM.out.2.1 HNM.out.2.2 (HSR.out.1.below (HB1.out.trans (HB3.out.mono HB1.out.size))) hLE HSR.out.2)
    refine HKP.out.mono ?_
    rintro r w4 ⟨rfl, o4, hd4, hs4⟩
    have hl4 := HL3.out.put hs4 hd4 (by decide) (by omega)
    obtain ⟨N4, hN4⟩ : ∃ N4, N4 = cntN M3 shotN N3 := ⟨_, rfl⟩
    have hN4b : N4 ≤ 2 := by have := cntN_le M3 shotN N3; omega
    obtain ⟨M4, hM4⟩ : ∃ M4, M4 = upd M3 shotN (some (sureF (Vt.shotOf i s simg))) := ⟨_, rfl⟩
    rw [← hN4, ← hM4] at hl4
    have HMV := Lib.hid (show M4.at voteN = sureF (Vt.voteOf t v) by rw [hM4, upd_at_other _ _ (by decide), HM3.out, upd_at])
    have HMS := Lib.hid (show M4.at shotN = sureF (Vt.shotOf i s simg) by rw [hM4, upd_at])
    have HLO := Lib.hid (show ∀ n f, M4 n = some f → f.loose = false by
      intro n f hf
      rw [hM4, HM3.out] at hf
      unfold upd at hf
      split at hf
      · cases hf; rfl
      · split at hf
        · cases hf; rfl
        · cases hf)
    have HL4 := Lib.hid hl4
    have HB4 := Lib.hid (HB3.out.trans (hs4.below (fun k e => HL3.out.disk.owns k e) HL3.out.hB))
    clear hl4 hd4 hs4 hN4 hM4 HKP
    go_wp2_with fail
    refine hK.out _ _ (HIN.out _ HB4.out) (fun hHeld => ?_)
    clear hK K
    try simp only [Act.put]
    try simp only [List.setIfInBounds_toArray]
    try simp only [List.set_cons_succ]
    try simp only [List.set_cons_zero]
    refine wpAnyH_take (i := 6) (oi := ?_) (v := ?_) ?_ (by kernel_rfl) (by kernel_rfl) (by kernel_rfl) ?_ (Or.inl ⟨?_, ?_⟩) (by assumption) ?_
    rotate_left 2
    focus (simp only [List.getElem?_toArray, List.getElem?_cons_succ, List.getElem?_cons_zero]; rfl)
    focus exact fun _ _ _ h => h
    focus rfl
    focus (intro W hS; (try dsimp only at hS); go_simp; (try with_reducible rfl))
    try simp only [Act.put]
    try simp only [List.setIfInBounds_toArray]
    try simp only [List.set_cons_succ]
    try simp only [List.set_cons_zero]
    refine wpAnyH_take (i := 7) (oi := ?_) (v := ?_) ?_ (by kernel_rfl) (by kernel_rfl) (by kernel_rfl) ?_ (Or.inl ⟨?_, ?_⟩) (by assumption) ?_
    rotate_left 2
    focus (simp only [List.getElem?_toArray, List.getElem?_cons_succ, List.getElem?_cons_zero]; rfl)
    focus exact fun _ _ _ h => h
    focus rfl
    focus (intro W hS; (try dsimp only at hS); go_simp; (try with_reducible rfl))
    try simp only [Act.put]
    try simp only [List.setIfInBounds_toArray]
    try simp only [List.set_cons_succ]
    try simp only [List.set_cons_zero]
    refine wpAnyH_done (by kernel_rfl) ?_ _
    have HR1 := Lib.hid (read_of (.pointer (some ⟨w1.heap.size + 1, 0, none⟩)) (.string ⟨voteN.toArray⟩) w4 w1.heap.size o4 voteN (M4.at voteN) (Lib.hid (file_any (w1.heap.size + 1) w1.heap.size N4 o4 M4 voteN w4 HL4.out.disk (by decide))) (Lib.hid fun k e => (HL4.out.disk.owns k e).2) (HL4.out.at_ voteN))
    rw [HMV.out] at HR1
    simp only [sure_now] at HR1
    clear hHeld
    go_wp2_with fail
    refine HR1.out.mono ?_
    rintro e w5 ⟨xa, xc, rfl, hrx, hb5⟩
    have hl5 := HL4.out.below hb5
    have HR2 := Lib.hid (read_of (.pointer (some ⟨w1.heap.size + 1, 0, none⟩)) (.string ⟨shotN.toArray⟩) w5 w1.heap.size o4 shotN (M4.at shotN) (Lib.hid (file_any (w1.heap.size + 1) w1.heap.size N4 o4 M4 shotN w5 hl5.disk (by decide))) (Lib.hid fun k e => (hl5.disk.owns k e).2) (hl5.at_ shotN))
    rw [HMS.out] at HR2
    simp only [sure_now] at HR2
    have HRX := Lib.hid hrx
    have HL5 := Lib.hid hl5
    have HB5 := Lib.hid (HB4.out.trans (hb5.mono HL4.out.hB))
    clear hrx hb5 hl5 HR1
    go_wp2_with fail
    refine HR2.out.mono ?_
    rintro e w6 ⟨ya, yc, rfl, hry, hb6⟩
    have hl6 := HL5.out.below hb6
    have HRY := Lib.hid hry
    have HRX6 := Lib.hid (HRX.out.below hb6)
    have HL6 := Lib.hid hl6
    have HB6 := Lib.hid (HB5.out.trans (hb6.mono HL5.out.hB))
    have HPR := Lib.hid (fun W => refPromise_any t v W HNM.out.1.1 HNM.out.1.2)
    have HLS := Lib.hid (fun W (hW : Below w6.heap.size w6 W) => loose_all (w1.heap.size + 1) w1.heap.size N4 o4 M4 W (HL6.out.disk.below hW) (by omega) (fun l f hf => by have := (HL6.out.tame l f hf).2; omega))
    have CX := Lib.hid (fun (W : World) (hW : Below w6.heap.size w6 W) => HRX6.out.text hW)
    have CY := Lib.hid (fun (W : World) (hW : Below w6.heap.size w6 W) => HRY.out.text hW)
    have hvl := vote_len t v
    clear hry hb6 hl6 HR2
    go_wp2_with fail
    refine wp_region_held_drew (S := (fun W => Below w6.heap.size w6 W)) (by kernel_rfl) (Below.refl _ _).drew (fun hHeld => ?_)
    refine wpAnyH_take (i := 0) (oi := ?_) (v := ?_) ?_ (by kernel_rfl) (by kernel_rfl) (by kernel_rfl) ?_ (Or.inl ⟨?_, ?_⟩) (by assumption) ?_
    rotate_left 2
    focus (simp only [List.getElem?_toArray, List.getElem?_cons_zero]; rfl)
    focus exact fun _ _ _ h => h
    focus rfl
    focus (intro W hS; (try dsimp only at hS); go_simp; (try with_reducible rfl))
    try simp only [Act.put]
    try simp only [List.setIfInBounds_toArray]
    try simp only [List.set_cons_succ]
    try simp only [List.set_cons_zero]
    refine wpAnyH_take (i := 1) (oi := ?_) (v := ?_) ?_ (by kernel_rfl) (by kernel_rfl) (by kernel_rfl) ?_ (Or.inl ⟨?_, ?_⟩) (by assumption) ?_
    rotate_left 2
    focus (simp only [List.getElem?_toArray, List.getElem?_cons_succ, List.getElem?_cons_zero]; rfl)
    focus exact fun _ _ _ h => h
    focus rfl
    focus (intro W hS; (try dsimp only at hS); go_simp; (try with_reducible rfl))
    try simp only [Act.put]
    try simp only [List.setIfInBounds_toArray]
    try simp only [List.set_cons_succ]
    try simp only [List.set_cons_zero]
    refine wpAnyH_take (i := 2) (oi := ?_) (v := ?_) ?_ (by kernel_rfl) (by kernel_rfl) (by kernel_rfl) ?_ (Or.inl ⟨?_, ?_⟩) (by assumption) ?_
    rotate_left 2
    focus (simp only [List.getElem?_toArray, List.getElem?_cons_succ, List.getElem?_cons_zero]; rfl)
    focus exact fun _ _ _ h => h
    focus rfl
    focus (intro W hS; (try dsimp only at hS); go_simp; (try with_reducible rfl))
    try simp only [Act.put]
    try simp only [List.setIfInBounds_toArray]
    try simp only [List.set_cons_succ]
    try simp only [List.set_cons_zero]
    refine wpAnyH_take (i := 3) (oi := ?_) (v := ?_) ?_ (by kernel_rfl) (by kernel_rfl) (by kernel_rfl) ?_ (Or.inl ⟨?_, ?_⟩) (by assumption) ?_
    rotate_left 2
    focus (simp only [List.getElem?_toArray, List.getElem?_cons_succ, List.getElem?_cons_zero]; rfl)
    focus exact fun _ _ _ h => h
    focus rfl
    focus (intro W hS; (try dsimp only at hS); go_simp; (try with_reducible rfl))
    try simp only [Act.put]
    try simp only [List.setIfInBounds_toArray]
    try simp only [List.set_cons_succ]
    try simp only [List.set_cons_zero]
    refine wpAnyH_take (i := 4) (oi := ?_) (v := ?_) ?_ (by kernel_rfl) (by kernel_rfl) (by kernel_rfl) ?_ (Or.inl ⟨?_, ?_⟩) (by assumption) ?_
    rotate_left 2
    focus (simp only [List.getElem?_toArray, List.getElem?_cons_succ, List.getElem?_cons_zero]; rfl)
    focus exact fun _ _ _ h => h
    focus rfl
    focus (intro W hS; (try dsimp only at hS); go_simp; (try with_reducible rfl))
    try simp only [Act.put]
    try simp only [List.setIfInBounds_toArray]
    try simp only [List.set_cons_succ]
    try simp only [List.set_cons_zero]
    refine wpAnyH_take (i := 5) (oi := ?_) (v := ?_) ?_ (by kernel_rfl) (by kernel_rfl) (by kernel_rfl) ?_ (Or.inl ⟨?_, ?_⟩) (by assumption) ?_
    rotate_left 2
    focus (simp only [List.getElem?_toArray, List.getElem?_cons_succ, List.getElem?_cons_zero]; rfl)
    focus exact fun _ _ _ h => h
    focus rfl
    focus (intro W hS; (try dsimp only at hS); go_simp; (try with_reducible rfl))
    try simp only [Act.put]
    try simp only [List.setIfInBounds_toArray]
    try simp only [List.set_cons_succ]
    try simp only [List.set_cons_zero]
    refine wpAnyH_take (i := 6) (oi := ?_) (v := ?_) ?_ (by kernel_rfl) (by kernel_rfl) (by kernel_rfl) ?_ (Or.inl ⟨?_, ?_⟩) (by assumption) ?_
    rotate_left 2
    focus (simp only [List.getElem?_toArray, List.getElem?_cons_succ, List.getElem?_cons_zero]; rfl)
    focus exact fun _ _ _ h => h
    focus rfl
    focus (intro W hS; (try dsimp only at hS); go_simp; (try with_reducible rfl))
    try simp only [Act.put]
    try simp only [List.setIfInBounds_toArray]
    try simp only [List.set_cons_succ]
    try simp only [List.set_cons_zero]
    refine wpAnyH_take (i := 7) (oi := ?_) (v := ?_) ?_ (by kernel_rfl) (by kernel_rfl) (by kernel_rfl) ?_ (Or.inl ⟨?_, ?_⟩) (by assumption) ?_
    rotate_left 2
    focus (simp only [List.getElem?_toArray, List.getElem?_cons_succ, List.getElem?_cons_zero]; rfl)
    focus exact fun _ _ _ h => h
    focus rfl
    focus (intro W hS; (try dsimp only at hS); go_simp; (try with_reducible rfl))
    try simp only [Act.put]
    try simp only [List.setIfInBounds_toArray]
    try simp only [List.set_cons_succ]
    try simp only [List.set_cons_zero]
    refine wpAnyH_take (i := 8) (oi := ?_) (v := ?_) ?_ (by kernel_rfl) (by kernel_rfl) (by kernel_rfl) ?_ (Or.inl ⟨?_, ?_⟩) (by assumption) ?_
    rotate_left 2
    focus (simp only [List.getElem?_toArray, List.getElem?_cons_succ, List.getElem?_cons_zero]; rfl)
    focus exact fun _ _ _ h => h
    focus rfl
    focus (intro W hS; (try dsimp only at hS); have q := CX.out W hS; go_simp; (try with_reducible rfl))
    try simp only [Act.put]
    try simp only [List.setIfInBounds_toArray]
    try simp only [List.set_cons_succ]
    try simp only [List.set_cons_zero]
    refine wpAnyH_take (i := 9) (oi := ?_) (v := ?_) ?_ (by kernel_rfl) (by kernel_rfl) (by kernel_rfl) ?_ (Or.inl ⟨?_, ?_⟩) (by assumption) ?_
    rotate_left 2
    focus (simp only [List.getElem?_toArray, List.getElem?_cons_succ, List.getElem?_cons_zero]; rfl)
    focus exact fun _ _ _ h => h
    focus rfl
    focus (intro W hS; (try dsimp only at hS); obtain ⟨⟨p0, p1⟩, u0, u1, u2⟩ := HIN.out W (HB6.out.trans (hS.mono HL6.out.hB)); go_simp; (try with_reducible rfl))
    try simp only [Act.put]
    try simp only [List.setIfInBounds_toArray]
    try simp only [List.set_cons_succ]
    try simp only [List.set_cons_zero]
    refine wpAnyH_ready (rs := [10]) (by kernel_rfl) (by simp) ?_
    refine AllReadyH.cons (o := ?_) ?_ (fun K hK => ?_) AllReadyH.nil
    rotate_left
    focus (simp only [List.getElem?_toArray, List.getElem?_cons_succ, List.getElem?_cons_zero]; rfl)
    rw [if_pos (by rfl)]
    go_simp
    refine (HPR.out _).mono ?_
    rintro r w7 ⟨g7, c7, rfl, hr7, hb7⟩
    have h7 : Below w6.heap.size w6 w7 := (Below.refl w6.heap.size w6).drew.trans hb7
    have CP := Lib.hid (fun (W : World) (hW : Below w7.heap.size w7 W) => hr7.text hW)
    clear hr7 hb7
    go_wp2_with fail
    refine hK.out _ _ h7 (fun hHeld => ?_)
    clear hK K
    try simp only [Act.put]
    try simp only [List.setIfInBounds_toArray]
    try simp only [List.set_cons_succ]
    try simp only [List.set_cons_zero]
    refine wpAnyH_sharper (S' := fun W => Below w7.heap.size w7 W) (fun W hW => h7.trans (hW.mono h7.size)) _ _ _ _ ?_
    have hHeld : Below w7.heap.size w7 w7 := Below.refl _ _
    refine wpAnyH_take (i := 11) (oi := ?_) (v := ?_) ?_ (by kernel_rfl) (by kernel_rfl) (by kernel_rfl) ?_ (Or.inl ⟨?_, ?_⟩) (by assumption) ?_
    rotate_left 2
    focus (simp only [List.getElem?_toArray, List.getElem?_cons_succ, List.getElem?_cons_zero]; rfl)
    focus exact fun _ _ _ h => h
    focus rfl
    focus (intro W hS; (try dsimp only at hS); have q := CP.out W hS; go_simp; (try with_reducible rfl))
    try simp only [Act.put]
    try simp only [List.setIfInBounds_toArray]
    try simp only [List.set_cons_succ]
    try simp only [List.set_cons_zero]
    refine wpAnyH_take (i := 12) (oi := ?_) (v := ?_) ?_ (by kernel_rfl) (by kernel_rfl) (by kernel_rfl) ?_ (Or.inl ⟨?_, ?_⟩) (by assumption) ?_
    rotate_left 2
    focus (simp only [List.getElem?_toArray, List.getElem?_cons_succ, List.getElem?_cons_zero]; rfl)
    focus exact fun _ _ _ h => h
    focus rfl
    focus (intro W hS; (try dsimp only at hS); go_simp; (try with_reducible rfl))
    try simp only [Act.put]
    try simp only [List.setIfInBounds_toArray]
    try simp only [List.set_cons_succ]
    try simp only [List.set_cons_zero]
    refine wpAnyH_take (i := 13) (oi := ?_) (v := ?_) ?_ (by kernel_rfl) (by kernel_rfl) (by kernel_rfl) ?_ (Or.inl ⟨?_, ?_⟩) (by assumption) ?_
    rotate_left 2
    focus (simp only [List.getElem?_toArray, List.getElem?_cons_succ, List.getElem?_cons_zero]; rfl)
    focus exact fun _ _ _ h => h
    focus rfl
    focus (intro W hS; (try dsimp only at hS); go_simp; (try with_reducible rfl))
    try simp only [Act.put]
    try simp only [List.setIfInBounds_toArray]
    try simp only [List.set_cons_succ]
    try simp only [List.set_cons_zero]
    refine wpAnyH_take (i := 14) (oi := ?_) (v := ?_) ?_ (by kernel_rfl) (by kernel_rfl) (by kernel_rfl) ?_ (Or.inl ⟨?_, ?_⟩) (by assumption) ?_
    rotate_left 2
    focus (simp only [List.getElem?_toArray, List.getElem?_cons_succ, List.getElem?_cons_zero]; rfl)
    focus exact fun _ _ _ h => h
    focus rfl
    focus (intro W hS; (try dsimp only at hS); go_simp; (try with_reducible rfl))
    try simp only [Act.put]
    try simp only [List.setIfInBounds_toArray]
    try simp only [List.set_cons_succ]
    try simp only [List.set_cons_zero]
    refine wpAnyH_take (i := 15) (oi := ?_) (v := ?_) ?_ (by kernel_rfl) (by kernel_rfl) (by kernel_rfl) ?_ (Or.inl ⟨?_, ?_⟩) (by assumption) ?_
    rotate_left 2
    focus (simp only [List.getElem?_toArray, List.getElem?_cons_succ, List.getElem?_cons_zero]; rfl)
    focus exact fun _ _ _ h => h
    focus rfl
    focus (intro W hS; (try dsimp only at hS); go_simp; (try with_reducible rfl))
    try simp only [Act.put]
    try simp only [List.setIfInBounds_toArray]
    try simp only [List.set_cons_succ]
    try simp only [List.set_cons_zero]
    refine wpAnyH_ready (rs := [16]) (by kernel_rfl) (by simp) ?_
    refine AllReadyH.cons (o := ?_) ?_ (fun K hK => ?_) AllReadyH.nil
    rotate_left
    focus (simp only [List.getElem?_toArray, List.getElem?_cons_succ, List.getElem?_cons_zero]; rfl)
    rw [if_pos (by rfl)]
    go_simp
    refine (HLS.out _ h7).mono ?_
    rintro r w8 ⟨ks, ka, kc, rfl, hks, -, hb8, -⟩
    obtain rfl := no_loose hks HLO.out
    have h8 : Below w7.heap.size w7 w8 := hb8
    simp only [List.length_nil]
    clear hks hb8
    go_wp2_with fail
    refine hK.out _ _ h8 (fun hHeld => ?_)
    clear hK K
    try simp only [Act.put]
    try simp only [List.setIfInBounds_toArray]
    try simp only [List.set_cons_succ]
    try simp only [List.set_cons_zero]
    refine wpAnyH_take (i := 17) (oi := ?_) (v := ?_) ?_ (by kernel_rfl) (by kernel_rfl) (by kernel_rfl) ?_ (Or.inl ⟨?_, ?_⟩) (by assumption) ?_
    rotate_left 2
    focus (simp only [List.getElem?_toArray, List.getElem?_cons_succ, List.getElem?_cons_zero]; rfl)
    focus exact fun _ _ _ h => h
    focus rfl
    focus (intro W hS; (try dsimp only at hS); go_simp; (try with_reducible rfl))
    try simp only [Act.put]
    try simp only [List.setIfInBounds_toArray]
    try simp only [List.set_cons_succ]
    try simp only [List.set_cons_zero]
    refine wpAnyH_take (i := 18) (oi := ?_) (v := ?_) ?_ (by kernel_rfl) (by kernel_rfl) (by kernel_rfl) ?_ (Or.inl ⟨?_, ?_⟩) (by assumption) ?_
    rotate_left 2
    focus (simp only [List.getElem?_toArray, List.getElem?_cons_succ, List.getElem?_cons_zero]; rfl)
    focus exact fun _ _ _ h => h
    focus rfl
    focus (intro W hS; (try dsimp only at hS); go_simp; (try with_reducible rfl))
    try simp only [Act.put]
    try simp only [List.setIfInBounds_toArray]
    try simp only [List.set_cons_succ]
    try simp only [List.set_cons_zero]
    refine wpAnyH_take (i := 19) (oi := ?_) (v := ?_) ?_ (by kernel_rfl) (by kernel_rfl) (by kernel_rfl) ?_ (Or.inl ⟨?_, ?_⟩) (by assumption) ?_
    rotate_left 2
    focus (simp only [List.getElem?_toArray, List.getElem?_cons_succ, List.getElem?_cons_zero]; rfl)
    focus exact fun _ _ _ h => h
    focus rfl
    focus (intro W hS; (try dsimp only at hS); go_simp; (try with_reducible rfl))
    try simp only [Act.put]
    try simp only [List.setIfInBounds_toArray]
    try simp only [List.set_cons_succ]
    try simp only [List.set_cons_zero]
    refine wpAnyH_done (by kernel_rfl) ?_ _
    have h68 := h7.trans (h8.mono h7.size)
    have HB8 := Lib.hid (HB6.out.trans (h68.mono HL6.out.hB))
    have HL8 := Lib.hid (HL6.out.below h68)
    have CY8 := Lib.hid (fun (W : World) (hW : Below w8.heap.size w8 W) => CY.out W (h68.trans (hW.mono h68.size)))
    clear h7 h8 h68 hHeld HPR HLS CX CP CY
    obtain ⟨⟨p0, p1⟩, u0, u1, u2⟩ := HIN.out w8 HB8.out
    have dL : decide ((262144 : Int) < (simg.length : Int)) = false := by simp; omega
    have HSH := Lib.hid (fun (W : World) (hW : Below w.heap.size w W) => refShot_any i s sa sc simg W HNM.out.2.1 HNM.out.2.2 (HSR.out.1.below hW) hLE HSR.out.2)
    have hsl := shot_len (i := i) (t := s) hLE
    clear dA dB
    go_wp2_with fail
    refine wp_region_held_drew (S := (fun W => Below w8.heap.size w8 W)) (by kernel_rfl) (Below.refl _ _).drew (fun hHeld => ?_)
    refine wpAnyH_take (i := 0) (oi := ?_) (v := ?_) ?_ (by kernel_rfl) (by kernel_rfl) (by kernel_rfl) ?_ (Or.inl ⟨?_, ?_⟩) (by assumption) ?_
    rotate_left 2
    focus (simp only [List.getElem?_toArray, List.getElem?_cons_zero]; rfl)
    focus exact fun _ _ _ h => h
    focus rfl
    focus (intro W hS; (try dsimp only at hS); go_simp; (try with_reducible rfl))
    try simp only [Act.put]
    try simp only [List.setIfInBounds_toArray]
    try simp only [List.set_cons_succ]
    try simp only [List.set_cons_zero]
    refine wpAnyH_take (i := 1) (oi := ?_) (v := ?_) ?_ (by kernel_rfl) (by kernel_rfl) (by kernel_rfl) ?_ (Or.inl ⟨?_, ?_⟩) (by assumption) ?_
    rotate_left 2
    focus (simp only [List.getElem?_toArray, List.getElem?_cons_succ, List.getElem?_cons_zero]; rfl)
    focus exact fun _ _ _ h => h
    focus rfl
    focus (intro W hS; (try dsimp only at hS); go_simp; (try with_reducible rfl))
    try simp only [Act.put]
    try simp only [List.setIfInBounds_toArray]
    try simp only [List.set_cons_succ]
    try simp only [List.set_cons_zero]
    refine wpAnyH_take (i := 2) (oi := ?_) (v := ?_) ?_ (by kernel_rfl) (by kernel_rfl) (by kernel_rfl) ?_ (Or.inl ⟨?_, ?_⟩) (by assumption) ?_
    rotate_left 2
    focus (simp only [List.getElem?_toArray, List.getElem?_cons_succ, List.getElem?_cons_zero]; rfl)
    focus exact fun _ _ _ h => h
    focus rfl
    focus (intro W hS; (try dsimp only at hS); go_simp; (try with_reducible rfl))
    try simp only [Act.put]
    try simp only [List.setIfInBounds_toArray]
    try simp only [List.set_cons_succ]
    try simp only [List.set_cons_zero]
    refine wpAnyH_take (i := 3) (oi := ?_) (v := ?_) ?_ (by kernel_rfl) (by kernel_rfl) (by kernel_rfl) ?_ (Or.inl ⟨?_, ?_⟩) (by assumption) ?_
    rotate_left 2
    focus (simp only [List.getElem?_toArray, List.getElem?_cons_succ, List.getElem?_cons_zero]; rfl)
    focus exact fun _ _ _ h => h
    focus rfl
    focus (intro W hS; (try dsimp only at hS); go_simp; (try with_reducible rfl))
    try simp only [Act.put]
    try simp only [List.setIfInBounds_toArray]
    try simp only [List.set_cons_succ]
    try simp only [List.set_cons_zero]
    refine wpAnyH_take (i := 4) (oi := ?_) (v := ?_) ?_ (by kernel_rfl) (by kernel_rfl) (by kernel_rfl) ?_ (Or.inl ⟨?_, ?_⟩) (by assumption) ?_
    rotate_left 2
    focus (simp only [List.getElem?_toArray, List.getElem?_cons_succ, List.getElem?_cons_zero]; rfl)
    focus exact fun _ _ _ h => h
    focus rfl
    focus (intro W hS; (try dsimp only at hS); go_simp; (try with_reducible rfl))
    try simp only [Act.put]
    try simp only [List.setIfInBounds_toArray]
    try simp only [List.set_cons_succ]
    try simp only [List.set_cons_zero]
    refine wpAnyH_take (i := 5) (oi := ?_) (v := ?_) ?_ (by kernel_rfl) (by kernel_rfl) (by kernel_rfl) ?_ (Or.inl ⟨?_, ?_⟩) (by assumption) ?_
    rotate_left 2
    focus (simp only [List.getElem?_toArray, List.getElem?_cons_succ, List.getElem?_cons_zero]; rfl)
    focus exact fun _ _ _ h => h
    focus rfl
    focus (intro W hS; (try dsimp only at hS); go_simp; (try with_reducible rfl))
    try simp only [Act.put]
    try simp only [List.setIfInBounds_toArray]
    try simp only [List.set_cons_succ]
    try simp only [List.set_cons_zero]
    refine wpAnyH_take (i := 6) (oi := ?_) (v := ?_) ?_ (by kernel_rfl) (by kernel_rfl) (by kernel_rfl) ?_ (Or.inl ⟨?_, ?_⟩) (by assumption) ?_
    rotate_left 2
    focus (simp only [List.getElem?_toArray, List.getElem?_cons_succ, List.getElem?_cons_zero]; rfl)
    focus exact fun _ _ _ h => h
    focus rfl
    focus (intro W hS; (try dsimp only at hS); go_simp; (try with_reducible rfl))
    try simp only [Act.put]
    try simp only [List.setIfInBounds_toArray]
    try simp only [List.set_cons_succ]
    try simp only [List.set_cons_zero]
    refine wpAnyH_take (i := 7) (oi := ?_) (v := ?_) ?_ (by kernel_rfl) (by kernel_rfl) (by kernel_rfl) ?_ (Or.inl ⟨?_, ?_⟩) (by assumption) ?_
    rotate_left 2
    focus (simp only [List.getElem?_toArray, List.getElem?_cons_succ, List.getElem?_cons_zero]; rfl)
    focus exact fun _ _ _ h => h
    focus rfl
    focus (intro W hS; (try dsimp only at hS); go_simp; (try with_reducible rfl))
    try simp only [Act.put]
    try simp only [List.setIfInBounds_toArray]
    try simp only [List.set_cons_succ]
    try simp only [List.set_cons_zero]
    refine wpAnyH_take (i := 8) (oi := ?_) (v := ?_) ?_ (by kernel_rfl) (by kernel_rfl) (by kernel_rfl) ?_ (Or.inl ⟨?_, ?_⟩) (by assumption) ?_
    rotate_left 2
    focus (simp only [List.getElem?_toArray, List.getElem?_cons_succ, List.getElem?_cons_zero]; rfl)
    focus exact fun _ _ _ h => h
    focus rfl
    focus (intro W hS; (try dsimp only at hS); have q := CY8.out W hS; go_simp; (try with_reducible rfl))
    try simp only [Act.put]
    try simp only [List.setIfInBounds_toArray]
    try simp only [List.set_cons_succ]
    try simp only [List.set_cons_zero]
    refine wpAnyH_take (i := 9) (oi := ?_) (v := ?_) ?_ (by kernel_rfl) (by kernel_rfl) (by kernel_rfl) ?_ (Or.inl ⟨?_, ?_⟩) (by assumption) ?_
    rotate_left 2
    focus (simp only [List.getElem?_toArray, List.getElem?_cons_succ, List.getElem?_cons_zero]; rfl)
    focus exact fun _ _ _ h => h
    focus rfl
    focus (intro W hS; (try dsimp only at hS); obtain ⟨⟨p0, p1⟩, u0, u1, u2⟩ := HIN.out W (HB8.out.trans (hS.mono HL8.out.hB)); go_simp; (try with_reducible rfl))
    try simp only [Act.put]
    try simp only [List.setIfInBounds_toArray]
    try simp only [List.set_cons_succ]
    try simp only [List.set_cons_zero]
    refine wpAnyH_ready (rs := [10]) (by kernel_rfl) (by simp) ?_
    refine AllReadyH.cons (o := ?_) ?_ (fun K hK => ?_) AllReadyH.nil
    rotate_left
    focus (simp only [List.getElem?_toArray, List.getElem?_cons_succ, List.getElem?_cons_zero]; rfl)
    rw [if_pos (by rfl)]
    go_simp
    refine (HSH.out _ (HB1.out.trans ((HB8.out.trans ((Below.refl w8.heap.size w8).drew.mono HL8.out.hB)).mono HB1.out.size))).mono ?_
    rintro r w9 ⟨g9, c9, rfl, hr9, hb9⟩
    have h9 : Below w8.heap.size w8 w9 := (Below.refl w8.heap.size w8).drew.trans hb9
    have CP := Lib.hid (fun (W : World) (hW : Below w9.heap.size w9 W) => hr9.text hW)
    clear hr9 hb9
    go_wp2_with fail
    refine hK.out _ _ h9 (fun hHeld => ?_)
    clear hK K
    try simp only [Act.put]
    try simp only [List.setIfInBounds_toArray]
    try simp only [List.set_cons_succ]
    try simp only [List.set_cons_zero]
    refine wpAnyH_sharper (S' := fun W => Below w9.heap.size w9 W) (fun W hW => h9.trans (hW.mono h9.size)) _ _ _ _ ?_
    have hHeld : Below w9.heap.size w9 w9 := Below.refl _ _
    refine wpAnyH_take (i := 11) (oi := ?_) (v := ?_) ?_ (by kernel_rfl) (by kernel_rfl) (by kernel_rfl) ?_ (Or.inl ⟨?_, ?_⟩) (by assumption) ?_
    rotate_left 2
    focus (simp only [List.getElem?_toArray, List.getElem?_cons_succ, List.getElem?_cons_zero]; rfl)
    focus exact fun _ _ _ h => h
    focus rfl
    focus (intro W hS; (try dsimp only at hS); have q := CP.out W hS; go_simp; (try with_reducible rfl))
    try simp only [Act.put]
    try simp only [List.setIfInBounds_toArray]
    try simp only [List.set_cons_succ]
    try simp only [List.set_cons_zero]
    refine wpAnyH_take (i := 12) (oi := ?_) (v := ?_) ?_ (by kernel_rfl) (by kernel_rfl) (by kernel_rfl) ?_ (Or.inl ⟨?_, ?_⟩) (by assumption) ?_
    rotate_left 2
    focus (simp only [List.getElem?_toArray, List.getElem?_cons_succ, List.getElem?_cons_zero]; rfl)
    focus exact fun _ _ _ h => h
    focus rfl
    focus (intro W hS; (try dsimp only at hS); go_simp; (try with_reducible rfl))
    try simp only [Act.put]
    try simp only [List.setIfInBounds_toArray]
    try simp only [List.set_cons_succ]
    try simp only [List.set_cons_zero]
    refine wpAnyH_take (i := 13) (oi := ?_) (v := ?_) ?_ (by kernel_rfl) (by kernel_rfl) (by kernel_rfl) ?_ (Or.inl ⟨?_, ?_⟩) (by assumption) ?_
    rotate_left 2
    focus (simp only [List.getElem?_toArray, List.getElem?_cons_succ, List.getElem?_cons_zero]; rfl)
    focus exact fun _ _ _ h => h
    focus rfl
    focus (intro W hS; (try dsimp only at hS); go_simp; (try with_reducible rfl))
    try simp only [Act.put]
    try simp only [List.setIfInBounds_toArray]
    try simp only [List.set_cons_succ]
    try simp only [List.set_cons_zero]
    refine wpAnyH_done (by kernel_rfl) ?_ _
    have HL9 := Lib.hid (HL8.out.below h9)
    have HB9 := Lib.hid (HB8.out.trans (h9.mono HL8.out.hB))
    clear h9 hHeld HSH CP CY8 p0 p1 u0 u1 u2
    have HRE1 := Lib.hid (replace_any (w1.heap.size + 1) w1.heap.size N4 o4 M4 voteN a abs.length ac abs w9 HL9.out.disk rfl (HAR.out.1.below (HB1.out.trans (HB9.out.mono HB1.out.size))) HAR.out.2.2.2 (by have := HAB.out; omega) (.inr (by omega)) (by decide) (by decide) (by omega) (fun l f hf => by have := (HL9.out.tame l f hf).2; omega) HL9.out.hB)
    go_wp2_with fail
    refine HRE1.out.mono ?_
    rintro e wa ⟨rfl, oa, hda, hsa⟩
    have htA : Tame (upd M4 voteN (some ((M4.at voteN).chg ⟨true, abs, abs.length⟩))) := tame_upd HL9.out.tame (by decide) fun f e => by cases e; rw [HMV.out]; simp [Fil.chg, sureF]
    have hla := HL9.out.step hsa hda htA (by have := cntN_le M4 voteN N4; omega)
    obtain ⟨NA, hNA⟩ : ∃ NA, NA = cntN M4 voteN N4 := ⟨_, rfl⟩
    have hNAb : NA ≤ 3 := by have := cntN_le M4 voteN N4; omega
    rw [← hNA] at hla
    have HBa := Lib.hid (HB9.out.trans (hsa.below (fun k e => HL9.out.disk.owns k e) HL9.out.hB))
    have HRE2 := Lib.hid (replace_any (w1.heap.size + 1) w1.heap.size NA oa _ shotN b bbs.length bc bbs wa hla.disk rfl (HBR.out.1.below (HB1.out.trans (HBa.out.mono HB1.out.size))) HBR.out.2.2.2 (by have := HAB.out; omega) (.inr (by omega)) (by decide) (by decide) (by omega) (fun l f hf => by have := (hla.tame l f hf).2; omega) hla.hB)
    have HLa := Lib.hid hla
    clear hda hsa hNA HRE1 hla htA
    go_wp2_with fail
    refine HRE2.out.mono ?_
    rintro e wb ⟨rfl, ob, hdb, hsb⟩
    obtain ⟨MA, hMA⟩ : ∃ MA, MA = upd M4 voteN (some ((M4.at voteN).chg ⟨true, abs, abs.length⟩)) := ⟨_, rfl⟩
    rw [← hMA] at hdb
    have htB : Tame (upd MA shotN (some ((MA.at shotN).chg ⟨true, bbs, bbs.length⟩))) := tame_upd (by rw [hMA]; exact HLa.out.tame) (by decide) fun f e => by
      cases e
      rw [hMA, upd_at_other _ _ (by decide), HMS.out]
      simp [Fil.chg, sureF]
    rw [← hMA] at HLa
    have hlb := HLa.out.step hsb hdb htB (by have := cntN_le MA shotN NA; omega)
    obtain ⟨MB, hMB⟩ : ∃ MB, MB = upd MA shotN (some ((MA.at shotN).chg ⟨true, bbs, bbs.length⟩)) := ⟨_, rfl⟩
    rw [← hMB] at hlb
    have hV : (MB.at voteN).now = ⟨true, abs, abs.length⟩ := by rw [hMB, upd_at_other _ _ (by decide), hMA, upd_at, chg_now]
    have hS : (MB.at shotN).now = ⟨true, bbs, bbs.length⟩ := by rw [hMB, upd_at, chg_now]
    have HBb := Lib.hid (HBa.out.trans (hsb.below (fun k e => HLa.out.disk.owns k e) HLa.out.hB))
    have HGT := Lib.hid (get_there (w1.heap.size + 1) w1.heap.size _ ob MB wb hlb (by rw [hV]) (by rw [hV]; have := HAB.out; show abs.length ≤ _; omega))
    rw [hV] at HGT
    have HLb := Lib.hid hlb
    have HVS := Lib.hid hS
    clear hdb hsb hMB hMA htB hlb hV hS HRE2
    go_wp2_with fail
    refine HGT.out.mono ?_
    rintro e wc ⟨hbc, r, hr, rfl⟩
    obtain ⟨gn, gm, ge, hge⟩ := getV_form r
    rw [hge]
    have halc : Below wc.heap.size wc (wc.alloc (.cells #[.int .u64 (gn : Int), .int .u64 (gm : Int)] 24)) := (Below.refl _ _).alloc (Nat.le_refl _) _
    have hqc := heap_alloc_new wc (.cells #[.int .u64 (gn : Int), .int .u64 (gm : Int)] 24)
    obtain ⟨wd, hwd⟩ : ∃ wd, wd = wc.alloc (.cells #[.int .u64 (gn : Int), .int .u64 (gm : Int)] 24) := ⟨_, rfl⟩
    rw [← hwd] at halc hqc
    have hbbd := hbc.trans (halc.mono hbc.size)
    have HBd := Lib.hid (HBb.out.trans (hbbd.mono HLb.out.hB))
    have HLd := Lib.hid (HLb.out.below hbbd)
    have HQC := Lib.hid hqc
    have HRG := Lib.hid (refGet_any a abs.length ac abs wd rfl (HAR.out.1.below (HB1.out.trans (HBd.out.mono HB1.out.size))) (by have := HAB.out; omega) HAR.out.2.1 HAR.out.2.2.1)
    have HR := Lib.hid hr
    have HGE := Lib.hid hge
    have HWD := Lib.hid hwd
    clear hbc hr hge halc hqc hwd hbbd HGT
    go_wp2_with fail
    rw [← HWD.out]
    refine HRG.out.mono ?_
    rintro e we ⟨hbe, r2, hr2, rfl⟩
    obtain rfl := hr2.one HR.out
    rw [HGE.out]
    have hale : Below we.heap.size we (we.alloc (.cells #[.int .u64 (gn : Int), .int .u64 (gm : Int)] 24)) := (Below.refl _ _).alloc (Nat.le_refl _) _
    have hqe := heap_alloc_new we (.cells #[.int .u64 (gn : Int), .int .u64 (gm : Int)] 24)
    obtain ⟨wf, hwf⟩ : ∃ wf, wf = we.alloc (.cells #[.int .u64 (gn : Int), .int .u64 (gm : Int)] 24) := ⟨_, rfl⟩
    rw [← hwf] at hale hqe
    have hbdf := hbe.trans (hale.mono hbe.size)
    have HDF := Lib.hid hbdf
    have HBf := Lib.hid (HBd.out.trans (hbdf.mono HLd.out.hB))
    have HLf := Lib.hid (HLd.out.below hbdf)
    have HQE := Lib.hid hqe
    have HKT := Lib.hid (kept_there (w1.heap.size + 1) w1.heap.size _ ob MB wf HLf.out (by rw [HVS.out]) (by rw [HVS.out]; have := HAB.out; show bbs.length ≤ _; omega))
    rw [HVS.out] at HKT
    have HWF := Lib.hid hwf
    clear hbe hr2 hale hqe hwf hbdf HRG
    go_wp2_with fail
    rw [← HWF.out]
    refine HKT.out.mono ?_
    rintro e wg ⟨hbg, r3, hr3, hkv⟩
    obtain ⟨ki, kt, ke, I, hform⟩ := keptV_form hr3
    obtain ⟨ka, kc, rfl, hrd⟩ := hform _ _ _ hkv
    have halg : Below wg.heap.size wg (wg.alloc (.cells #[.int .u64 (ki : Int), .int .u64 (kt : Int), .slice ka I.length kc] 27)) := (Below.refl _ _).alloc (Nat.le_refl _) _
    have hqg := heap_alloc_new wg (.cells #[.int .u64 (ki : Int), .int .u64 (kt : Int), .slice ka I.length kc] 27)
    obtain ⟨wh, hwh⟩ : ∃ wh, wh = wg.alloc (.cells #[.int .u64 (ki : Int), .int .u64 (kt : Int), .slice ka I.length kc] 27) := ⟨_, rfl⟩
    rw [← hwh] at halg hqg
    have hbfh := hbg.trans (halg.mono hbg.size)
    have HFH := Lib.hid hbfh
    have HBh := Lib.hid (HBf.out.trans (hbfh.mono HLf.out.hB))
    have HQG := Lib.hid hqg
    have HRDK := Lib.hid (hrd.below halg)
    have HR3 := Lib.hid hr3
    have HFORM := Lib.hid hform
    have HRK := Lib.hid (refKept_any b bbs.length bc bbs wh rfl (HBR.out.1.below (HB1.out.trans (HBh.out.mono HB1.out.size))) (by have := HAB.out; omega) HBR.out.2.1 HBR.out.2.2.1)
    have HWH := Lib.hid hwh
    have hszh : w1.heap.size ≤ wh.heap.size := HBh.out.size
    clear hbg hr3 hkv hform hrd halg hqg hwh hbfh HKT
    go_wp2_with fail
    rw [← HWH.out]
    refine HRK.out.mono ?_
    rintro e wi ⟨hbi, r4, hr4, hkv⟩
    obtain rfl := hr4.one HR3.out
    obtain ⟨la, lc, rfl, hrd⟩ := HFORM.out _ _ _ hkv
    have hali : Below wi.heap.size wi (wi.alloc (.cells #[.int .u64 (ki : Int), .int .u64 (kt : Int), .slice la I.length lc] 27)) := (Below.refl _ _).alloc (Nat.le_refl _) _
    have hqi := heap_alloc_new wi (.cells #[.int .u64 (ki : Int), .int .u64 (kt : Int), .slice la I.length lc] 27)
    obtain ⟨wj, hwj⟩ : ∃ wj, wj = wi.alloc (.cells #[.int .u64 (ki : Int), .int .u64 (kt : Int), .slice la I.length lc] 27) := ⟨_, rfl⟩
    rw [← hwj] at hali hqi
    have hbhj := hbi.trans (hali.mono hbi.size)
    have HHJ := Lib.hid hbhj
    have HQI := Lib.hid hqi
    have HRDL := Lib.hid (hrd.below hali)
    have HWJ := Lib.hid hwj
    have HGN := Lib.hid (get_no (.pointer none) wj (.inl rfl))
    clear hbi hr4 hkv hrd hali hqi hwj hbhj HRK
    go_wp2_with fail
    rw [← HWJ.out]
    refine HGN.out.mono ?_
    rintro e wk ⟨hbk, rfl⟩
    have halk : Below wk.heap.size wk (wk.alloc zeroP) := (Below.refl _ _).alloc (Nat.le_refl _) _
    have hbjk := hbk.trans (halk.mono hbk.size)
    obtain ⟨wl_, hwl⟩ : ∃ wl_, wl_ = wk.alloc zeroP := ⟨_, rfl⟩
    rw [← hwl] at hbjk
    have HJK := Lib.hid hbjk
    have HKN0 := Lib.hid (kept_no (.pointer none) wl_ (.inl rfl))
    have HWL := Lib.hid hwl
    clear hbk halk hbjk hwl HGN
    go_wp2_with fail
    rw [show wk.alloc (.cells #[.int .u64 0, .int .u64 0] 24) = wl_ from HWL.out.symm]
    refine HKN0.out.mono ?_
    rintro e wm ⟨hbm, rfl⟩
    have halm : Below wm.heap.size wm (wm.alloc zeroS) := (Below.refl _ _).alloc (Nat.le_refl _) _
    have hblm := hbm.trans (halm.mono hbm.size)
    obtain ⟨wn, hwn⟩ : ∃ wn, wn = wm.alloc zeroS := ⟨_, rfl⟩
    rw [← hwn] at hblm
    have hjn := HJK.out.trans (hblm.mono HJK.out.size)
    have hhn := HHJ.out.trans (hjn.mono HHJ.out.size)
    have hfn := HFH.out.trans (hhn.mono HFH.out.size)
    have hdn := HDF.out.trans (hfn.mono HDF.out.size)
    have HBn := Lib.hid (HBh.out.trans (hhn.mono hszh))
    have hqc := (hdn.block _ (lt_of_block HQC.out)).trans HQC.out
    have hqe := (hfn.block _ (lt_of_block HQE.out)).trans HQE.out
    have hqg := (hhn.block _ (lt_of_block HQG.out)).trans HQG.out
    have hqi := (hjn.block _ (lt_of_block HQI.out)).trans HQI.out
    obtain ⟨x0, x1⟩ := two_at hqc
    obtain ⟨y0, y1⟩ := two_at hqe
    obtain ⟨g0, g1, g2⟩ := three_at hqg
    obtain ⟨l0, l1, l2⟩ := three_at hqi
    have HSM := Lib.hid (refSame_eq ki kt ka la kc lc I wn (HRDK.out.below hhn) (HRDL.out.below hjn))
    have HWN := Lib.hid hwn
    rw [hwn] at x0 x1 y0 y1 g0 g1 g2 l0 l1 l2
    have hszn : w1.heap.size ≤ wn.heap.size := HBn.out.size
    clear hbm halm hblm hwn hjn hhn hfn hdn hqc hqe hqg hqi HKN0
    go_wp2_with fail
    rw [show wm.alloc (.cells #[.int .u64 0, .int .u64 0, .slice none 0 0] 27) = wn from HWN.out.symm]
    refine HSM.out.mono ?_
    rintro e wo ⟨rfl, hbo⟩
    have HBo := Lib.hid (HBn.out.trans (hbo.mono hszn))
    obtain ⟨⟨p0, p1⟩, v0, v1, v2⟩ := HIN.out wo HBo.out
    have HPN := Lib.hid (voteput_no (.pointer none) t v wo (.inl rfl) HNM.out.1.1 HNM.out.1.2)
    clear hbo HSM
    go_wp2_with fail
    refine HPN.out.mono ?_
    rintro e wp ⟨rfl, hbp⟩
    have HBp := Lib.hid (HBo.out.trans (hbp.mono HBo.out.size))
    obtain ⟨⟨z0, z1⟩, n0, n1, n2⟩ := HIN.out wp HBp.out
    have HKO := Lib.hid (keep_no (.pointer none) i s sa simg.length sc wp (.inl rfl))
    clear hbp HPN p0 p1 v0 v1 v2
    go_wp2_with fail
    refine HKO.out.mono ?_
    rintro e wq ⟨rfl, hbq⟩
    have HBq := Lib.hid (HB1.out.trans ((HBp.out.trans (hbq.mono HBp.out.size)).mono HB1.out.size))
    clear hbq HKO
    go_wp2_with fail
    go_ret
    exact ⟨rfl, HBq.out⟩
  have d1 : decide ((9000 : Int) < (simg.length : Int)) = true := by simp; omega
  by_cases c2 : simg.length = 262144
  · have d2 : ((simg.length : Int) != 262144) = false := by rw [c2]; rfl
    have hLE : simg.length ≤ 262144 := by omega
    clear c1 c2
    go_wp2_with fail
    refine HNEW.out.mono ?_
    rintro e w2 ⟨rfl, hb2, o2, hd2, ho2⟩
    have hl2 : Liv w2 w1.heap.size o2 (w1.heap.size + 1) (fun _ => none) 0 := ⟨hd2, hb2.size, (fun l f hf => by cases hf), by decide⟩
    have HIN := Lib.hid (show ∀ W, Below w1.heap.size w1 W → (W.cell? ⟨w.heap.size, 0, none⟩ = some (.int .u64 (t : Int)) ∧ W.cell? ⟨w.heap.size, 1, none⟩ = some (.int .u64 (v : Int))) ∧ W.cell? ⟨w.heap.size + 1, 0, none⟩ = some (.int .u64 (i : Int)) ∧ W.cell? ⟨w.heap.size + 1, 1, none⟩ = some (.int .u64 (s : Int)) ∧ W.cell? ⟨w.heap.size + 1, 2, none⟩ = some (.slice sa simg.length sc) from fun W h =>
      ⟨two_at ((h.block _ (lt_of_block HPB1.out)).trans HPB1.out), three_at ((h.block _ (lt_of_block HSB1.out)).trans HSB1.out)⟩)
    have HL2 := Lib.hid hl2
    have HB2 := Lib.hid hb2
    clear hl2 hd2 hb2 ho2 s0 s1 s2 HNEW
    go_wp2_with fail
    refine wp_region_held_drew (S := (fun W => (W.cell? ⟨w.heap.size, 0, none⟩ = some (.int .u64 (t : Int)) ∧ W.cell? ⟨w.heap.size, 1, none⟩ = some (.int .u64 (v : Int))) ∧ W.cell? ⟨w.heap.size + 1, 0, none⟩ = some (.int .u64 (i : Int)) ∧ W.cell? ⟨w.heap.size + 1, 1, none⟩ = some (.int .u64 (s : Int)) ∧ W.cell? ⟨w.heap.size + 1, 2, none⟩ = some (.slice sa simg.length sc))) (by kernel_rfl) (HIN.out _ HB2.out.drew) (fun hHeld => ?_)
    refine wpAnyH_take (i := 0) (oi := ?_) (v := ?_) ?_ (by kernel_rfl) (by kernel_rfl) (by kernel_rfl) ?_ (Or.inl ⟨?_, ?_⟩) (by assumption) ?_
    rotate_left 2
    focus (simp only [List.getElem?_toArray, List.getElem?_cons_zero]; rfl)
    focus exact fun _ _ _ h => h
    focus rfl
    focus (intro W hS; (try dsimp only at hS); go_simp; (try with_reducible rfl))
    try simp only [Act.put]
    try simp only [List.setIfInBounds_toArray]
    try simp only [List.set_cons_succ]
    try simp only [List.set_cons_zero]
    refine wpAnyH_take (i := 1) (oi := ?_) (v := ?_) ?_ (by kernel_rfl) (by kernel_rfl) (by kernel_rfl) ?_ (Or.inl ⟨?_, ?_⟩) (by assumption) ?_
    rotate_left 2
    focus (simp only [List.getElem?_toArray, List.getElem?_cons_succ, List.getElem?_cons_zero]; rfl)
    focus exact fun _ _ _ h => h
    focus rfl
    focus (intro W hS; (try dsimp only at hS); obtain ⟨⟨p0, p1⟩, u0, u1, u2⟩ := hS; go_simp; (try with_reducible rfl))
    try simp only [Act.put]
    try simp only [List.setIfInBounds_toArray]
    try simp only [List.set_cons_succ]
    try simp only [List.set_cons_zero]
    refine wpAnyH_take (i := 3) (oi := ?_) (v := ?_) ?_ (by kernel_rfl) (by kernel_rfl) (by kernel_rfl) ?_ (Or.inl ⟨?_, ?_⟩) (by assumption) ?_
    rotate_left 2
    focus (simp only [List.getElem?_toArray, List.getElem?_cons_succ, List.getElem?_cons_zero]; rfl)
    focus exact fun _ _ _ h => h
    focus rfl
    focus (intro W hS; (try dsimp only at hS); go_simp; (try with_reducible rfl))
    try simp only [Act.put]
    try simp only [List.setIfInBounds_toArray]
    try simp only [List.set_cons_succ]
    try simp only [List.set_cons_zero]
    refine wpAnyH_take (i := 4) (oi := ?_) (v := ?_) ?_ (by kernel_rfl) (by kernel_rfl) (by kernel_rfl) ?_ (Or.inl ⟨?_, ?_⟩) (by assumption) ?_
    rotate_left 2
    focus (simp only [List.getElem?_toArray, List.getElem?_cons_succ, List.getElem?_cons_zero]; rfl)
    focus exact fun _ _ _ h => h
    focus rfl
    focus (intro W hS; (try dsimp only at hS); obtain ⟨⟨p0, p1⟩, u0, u1, u2⟩ := hS; go_simp; (try with_reducible rfl))
    try simp only [Act.put]
    try simp only [List.setIfInBounds_toArray]
    try simp only [List.set_cons_succ]
    try simp only [List.set_cons_zero]
    refine wpAnyH_ready (rs := [2]) (by kernel_rfl) (by simp) ?_
    refine AllReadyH.cons (o := ?_) ?_ (fun K hK => ?_) AllReadyH.nil
    rotate_left
    focus (simp only [List.getElem?_toArray, List.getElem?_cons_succ, List.getElem?_cons_zero]; rfl)
    rw [if_pos (by rfl)]
    go_simp
    have HPT := Lib.hid (voteput_any (w1.heap.size + 1) w1.heap.size 0 o2 (fun _ => none) t v w2.drew (HL2.out.below ⟨rfl, rfl, rfl, Nat.le_refl _, fun _ _ => rfl⟩) HNM.out.1.1 HNM.out.1.2)
    refine HPT.out.mono ?_
    rintro r w3 ⟨rfl, o3, hd3, hs3⟩
    have hl2d := HL2.out.below (w' := w2.drew) ⟨rfl, rfl, rfl, Nat.le_refl _, fun _ _ => rfl⟩
    have hl3 := hl2d.put hs3 hd3 (by decide) (by decide)
    obtain ⟨N3, hN3⟩ : ∃ N3, N3 = cntN (fun _ => none : Files) voteN 0 := ⟨_, rfl⟩
    have hN3b : N3 ≤ 1 := by have := cntN_le (fun _ => none : Files) voteN 0; omega
    obtain ⟨M3, hM3⟩ : ∃ M3, M3 = upd (fun _ => none : Files) voteN (some (sureF (Vt.voteOf t v))) := ⟨_, rfl⟩
    rw [← hN3, ← hM3] at hl3
    have HL3 := Lib.hid hl3
    have HM3 := Lib.hid hM3
    have HB3 := Lib.hid (show Below w1.heap.size w1 w3 from HB2.out.trans ((show Below w1.heap.size w2 w2.drew from ⟨rfl, rfl, rfl, Nat.le_refl _, fun _ _ => rfl⟩).trans (hs3.below (fun k e => hl2d.disk.owns k e) hl2d.hB)))
    clear hl2d hl3 hd3 hs3 hN3 hM3 HPT
    go_wp2_with fail
    refine hK.out _ _ (HIN.out _ HB3.out) (fun hHeld => ?_)
    clear hK K
    try simp only [Act.put]
    try simp only [List.setIfInBounds_toArray]
    try simp only [List.set_cons_succ]
    try simp only [List.set_cons_zero]
    refine wpAnyH_ready (rs := [5]) (by kernel_rfl) (by simp) ?_
    refine AllReadyH.cons (o := ?_) ?_ (fun K hK => ?_) AllReadyH.nil
    rotate_left
    focus (simp only [List.getElem?_toArray, List.getElem?_cons_succ, List.getElem?_cons_zero]; rfl)
    rw [if_pos (by rfl)]
    go_simp
    have HKP := Lib.hid (keep_any (w1.heap.size + 1) w1.heap.size N3 o3 M3 i s sa sc simg w3 HL3.out HNM.out.2.1 HNM.out.2.2 (HSR.out.1.below (HB1.out.trans (HB3.out.mono HB1.out.size))) hLE HSR.out.2)
    refine HKP.out.mono ?_
    rintro r w4 ⟨rfl, o4, hd4, hs4⟩
    have hl4 := HL3.out.put hs4 hd4 (by decide) (by omega)
    obtain ⟨N4, hN4⟩ : ∃ N4, N4 = cntN M3 shotN N3 := ⟨_, rfl⟩
    have hN4b : N4 ≤ 2 := by have := cntN_le M3 shotN N3; omega
    obtain ⟨M4, hM4⟩ : ∃ M4, M4 = upd M3 shotN (some (sureF (Vt.shotOf i s simg))) := ⟨_, rfl⟩
    rw [← hN4, ← hM4] at hl4
    have HMV := Lib.hid (show M4.at voteN = sureF (Vt.voteOf t v) by rw [hM4, upd_at_other _ _ (by decide), HM3.out, upd_at])
    have HMS := Lib.hid (show M4.at shotN = sureF (Vt.shotOf i s simg) by rw [hM4, upd_at])
    have HLO := Lib.hid (show ∀ n f, M4 n = some f → f.loose = false by
      intro n f hf
      rw [hM4, HM3.out] at hf
      unfold upd at hf
      split at hf
      · cases hf; rfl
      · split at hf
        · cases hf; rfl
        · cases hf)
    have HL4 := Lib.hid hl4
    have HB4 := Lib.hid (HB3.out.trans (hs4.below (fun k e => HL3.out.disk.owns k e) HL3.out.hB))
    clear hl4 hd4 hs4 hN4 hM4 HKP
    go_wp2_with fail
    refine hK.out _ _ (HIN.out _ HB4.out) (fun hHeld => ?_)
    clear hK K
    try simp only [Act.put]
    try simp only [List.setIfInBounds_toArray]
    try simp only [List.set_cons_succ]
    try simp only [List.set_cons_zero]
    refine wpAnyH_take (i := 6) (oi := ?_) (v := ?_) ?_ (by kernel_rfl) (by kernel_rfl) (by kernel_rfl) ?_ (Or.inl ⟨?_, ?_⟩) (by assumption) ?_
    rotate_left 2
    focus (simp only [List.getElem?_toArray, List.getElem?_cons_succ, List.getElem?_cons_zero]; rfl)
    focus exact fun _ _ _ h => h
    focus rfl
    focus (intro W hS; (try dsimp only at hS); go_simp; (try with_reducible rfl))
    try simp only [Act.put]
    try simp only [List.setIfInBounds_toArray]
    try simp only [List.set_cons_succ]
    try simp only [List.set_cons_zero]
    refine wpAnyH_take (i := 7) (oi := ?_) (v := ?_) ?_ (by kernel_rfl) (by kernel_rfl) (by kernel_rfl) ?_ (Or.inl ⟨?_, ?_⟩) (by assumption) ?_
    rotate_left 2
    focus (simp only [List.getElem?_toArray, List.getElem?_cons_succ, List.getElem?_cons_zero]; rfl)
    focus exact fun _ _ _ h => h
    focus rfl
    focus (intro W hS; (try dsimp only at hS); go_simp; (try with_reducible rfl))
    try simp only [Act.put]
    try simp only [List.setIfInBounds_toArray]
    try simp only [List.set_cons_succ]
    try simp only [List.set_cons_zero]
    refine wpAnyH_done (by kernel_rfl) ?_ _
    have HR1 := Lib.hid (read_of (.pointer (some ⟨w1.heap.size + 1, 0, none⟩)) (.string ⟨voteN.toArray⟩) w4 w1.heap.size o4 voteN (M4.at voteN) (Lib.hid (file_any (w1.heap.size + 1) w1.heap.size N4 o4 M4 voteN w4 HL4.out.disk (by decide))) (Lib.hid fun k e => (HL4.out.disk.owns k e).2) (HL4.out.at_ voteN))
    rw [HMV.out] at HR1
    simp only [sure_now] at HR1
    clear hHeld
    go_wp2_with fail
    refine HR1.out.mono ?_
    rintro e w5 ⟨xa, xc, rfl, hrx, hb5⟩
    have hl5 := HL4.out.below hb5
    have HR2 := Lib.hid (read_of (.pointer (some ⟨w1.heap.size + 1, 0, none⟩)) (.string ⟨shotN.toArray⟩) w5 w1.heap.size o4 shotN (M4.at shotN) (Lib.hid (file_any (w1.heap.size + 1) w1.heap.size N4 o4 M4 shotN w5 hl5.disk (by decide))) (Lib.hid fun k e => (hl5.disk.owns k e).2) (hl5.at_ shotN))
    rw [HMS.out] at HR2
    simp only [sure_now] at HR2
    have HRX := Lib.hid hrx
    have HL5 := Lib.hid hl5
    have HB5 := Lib.hid (HB4.out.trans (hb5.mono HL4.out.hB))
    clear hrx hb5 hl5 HR1
    go_wp2_with fail
    refine HR2.out.mono ?_
    rintro e w6 ⟨ya, yc, rfl, hry, hb6⟩
    have hl6 := HL5.out.below hb6
    have HRY := Lib.hid hry
    have HRX6 := Lib.hid (HRX.out.below hb6)
    have HL6 := Lib.hid hl6
    have HB6 := Lib.hid (HB5.out.trans (hb6.mono HL5.out.hB))
    have HPR := Lib.hid (fun W => refPromise_any t v W HNM.out.1.1 HNM.out.1.2)
    have HLS := Lib.hid (fun W (hW : Below w6.heap.size w6 W) => loose_all (w1.heap.size + 1) w1.heap.size N4 o4 M4 W (HL6.out.disk.below hW) (by omega) (fun l f hf => by have := (HL6.out.tame l f hf).2; omega))
    have CX := Lib.hid (fun (W : World) (hW : Below w6.heap.size w6 W) => HRX6.out.text hW)
    have CY := Lib.hid (fun (W : World) (hW : Below w6.heap.size w6 W) => HRY.out.text hW)
    have hvl := vote_len t v
    clear hry hb6 hl6 HR2
    go_wp2_with fail
    refine wp_region_held_drew (S := (fun W => Below w6.heap.size w6 W)) (by kernel_rfl) (Below.refl _ _).drew (fun hHeld => ?_)
    refine wpAnyH_take (i := 0) (oi := ?_) (v := ?_) ?_ (by kernel_rfl) (by kernel_rfl) (by kernel_rfl) ?_ (Or.inl ⟨?_, ?_⟩) (by assumption) ?_
    rotate_left 2
    focus (simp only [List.getElem?_toArray, List.getElem?_cons_zero]; rfl)
    focus exact fun _ _ _ h => h
    focus rfl
    focus (intro W hS; (try dsimp only at hS); go_simp; (try with_reducible rfl))
    try simp only [Act.put]
    try simp only [List.setIfInBounds_toArray]
    try simp only [List.set_cons_succ]
    try simp only [List.set_cons_zero]
    refine wpAnyH_take (i := 1) (oi := ?_) (v := ?_) ?_ (by kernel_rfl) (by kernel_rfl) (by kernel_rfl) ?_ (Or.inl ⟨?_, ?_⟩) (by assumption) ?_
    rotate_left 2
    focus (simp only [List.getElem?_toArray, List.getElem?_cons_succ, List.getElem?_cons_zero]; rfl)
    focus exact fun _ _ _ h => h
    focus rfl
    focus (intro W hS; (try dsimp only at hS); go_simp; (try with_reducible rfl))
    try simp only [Act.put]
    try simp only [List.setIfInBounds_toArray]
    try simp only [List.set_cons_succ]
    try simp only [List.set_cons_zero]
    refine wpAnyH_take (i := 2) (oi := ?_) (v := ?_) ?_ (by kernel_rfl) (by kernel_rfl) (by kernel_rfl) ?_ (Or.inl ⟨?_, ?_⟩) (by assumption) ?_
    rotate_left 2
    focus (simp only [List.getElem?_toArray, List.getElem?_cons_succ, List.getElem?_cons_zero]; rfl)
    focus exact fun _ _ _ h => h
    focus rfl
    focus (intro W hS; (try dsimp only at hS); go_simp; (try with_reducible rfl))
    try simp only [Act.put]
    try simp only [List.setIfInBounds_toArray]
    try simp only [List.set_cons_succ]
    try simp only [List.set_cons_zero]
    refine wpAnyH_take (i := 3) (oi := ?_) (v := ?_) ?_ (by kernel_rfl) (by kernel_rfl) (by kernel_rfl) ?_ (Or.inl ⟨?_, ?_⟩) (by assumption) ?_
    rotate_left 2
    focus (simp only [List.getElem?_toArray, List.getElem?_cons_succ, List.getElem?_cons_zero]; rfl)
    focus exact fun _ _ _ h => h
    focus rfl
    focus (intro W hS; (try dsimp only at hS); go_simp; (try with_reducible rfl))
    try simp only [Act.put]
    try simp only [List.setIfInBounds_toArray]
    try simp only [List.set_cons_succ]
    try simp only [List.set_cons_zero]
    refine wpAnyH_take (i := 4) (oi := ?_) (v := ?_) ?_ (by kernel_rfl) (by kernel_rfl) (by kernel_rfl) ?_ (Or.inl ⟨?_, ?_⟩) (by assumption) ?_
    rotate_left 2
    focus (simp only [List.getElem?_toArray, List.getElem?_cons_succ, List.getElem?_cons_zero]; rfl)
    focus exact fun _ _ _ h => h
    focus rfl
    focus (intro W hS; (try dsimp only at hS); go_simp; (try with_reducible rfl))
    try simp only [Act.put]
    try simp only [List.setIfInBounds_toArray]
    try simp only [List.set_cons_succ]
    try simp only [List.set_cons_zero]
    refine wpAnyH_take (i := 5) (oi := ?_) (v := ?_) ?_ (by kernel_rfl) (by kernel_rfl) (by kernel_rfl) ?_ (Or.inl ⟨?_, ?_⟩) (by assumption) ?_
    rotate_left 2
    focus (simp only [List.getElem?_toArray, List.getElem?_cons_succ, List.getElem?_cons_zero]; rfl)
    focus exact fun _ _ _ h => h
    focus rfl
    focus (intro W hS; (try dsimp only at hS); go_simp; (try with_reducible rfl))
    try simp only [Act.put]
    try simp only [List.setIfInBounds_toArray]
    try simp only [List.set_cons_succ]
    try simp only [List.set_cons_zero]
    refine wpAnyH_take (i := 6) (oi := ?_) (v := ?_) ?_ (by kernel_rfl) (by kernel_rfl) (by kernel_rfl) ?_ (Or.inl ⟨?_, ?_⟩) (by assumption) ?_
    rotate_left 2
    focus (simp only [List.getElem?_toArray, List.getElem?_cons_succ, List.getElem?_cons_zero]; rfl)
    focus exact fun _ _ _ h => h
    focus rfl
    focus (intro W hS; (try dsimp only at hS); go_simp; (try with_reducible rfl))
    try simp only [Act.put]
    try simp only [List.setIfInBounds_toArray]
    try simp only [List.set_cons_succ]
    try simp only [List.set_cons_zero]
    refine wpAnyH_take (i := 7) (oi := ?_) (v := ?_) ?_ (by kernel_rfl) (by kernel_rfl) (by kernel_rfl) ?_ (Or.inl ⟨?_, ?_⟩) (by assumption) ?_
    rotate_left 2
    focus (simp only [List.getElem?_toArray, List.getElem?_cons_succ, List.getElem?_cons_zero]; rfl)
    focus exact fun _ _ _ h => h
    focus rfl
    focus (intro W hS; (try dsimp only at hS); go_simp; (try with_reducible rfl))
    try simp only [Act.put]
    try simp only [List.setIfInBounds_toArray]
    try simp only [List.set_cons_succ]
    try simp only [List.set_cons_zero]
    refine wpAnyH_take (i := 8) (oi := ?_) (v := ?_) ?_ (by kernel_rfl) (by kernel_rfl) (by kernel_rfl) ?_ (Or.inl ⟨?_, ?_⟩) (by assumption) ?_
    rotate_left 2
    focus (simp only [List.getElem?_toArray, List.getElem?_cons_succ, List.getElem?_cons_zero]; rfl)
    focus exact fun _ _ _ h => h
    focus rfl
    focus (intro W hS; (try dsimp only at hS); have q := CX.out W hS; go_simp; (try with_reducible rfl))
    try simp only [Act.put]
    try simp only [List.setIfInBounds_toArray]
    try simp only [List.set_cons_succ]
    try simp only [List.set_cons_zero]
    refine wpAnyH_take (i := 9) (oi := ?_) (v := ?_) ?_ (by kernel_rfl) (by kernel_rfl) (by kernel_rfl) ?_ (Or.inl ⟨?_, ?_⟩) (by assumption) ?_
    rotate_left 2
    focus (simp only [List.getElem?_toArray, List.getElem?_cons_succ, List.getElem?_cons_zero]; rfl)
    focus exact fun _ _ _ h => h
    focus rfl
    focus (intro W hS; (try dsimp only at hS); obtain ⟨⟨p0, p1⟩, u0, u1, u2⟩ := HIN.out W (HB6.out.trans (hS.mono HL6.out.hB)); go_simp; (try with_reducible rfl))
    try simp only [Act.put]
    try simp only [List.setIfInBounds_toArray]
    try simp only [List.set_cons_succ]
    try simp only [List.set_cons_zero]
    refine wpAnyH_ready (rs := [10]) (by kernel_rfl) (by simp) ?_
    refine AllReadyH.cons (o := ?_) ?_ (fun K hK => ?_) AllReadyH.nil
    rotate_left
    focus (simp only [List.getElem?_toArray, List.getElem?_cons_succ, List.getElem?_cons_zero]; rfl)
    rw [if_pos (by rfl)]
    go_simp
    refine (HPR.out _).mono ?_
    rintro r w7 ⟨g7, c7, rfl, hr7, hb7⟩
    have h7 : Below w6.heap.size w6 w7 := (Below.refl w6.heap.size w6).drew.trans hb7
    have CP := Lib.hid (fun (W : World) (hW : Below w7.heap.size w7 W) => hr7.text hW)
    clear hr7 hb7
    go_wp2_with fail
    refine hK.out _ _ h7 (fun hHeld => ?_)
    clear hK K
    try simp only [Act.put]
    try simp only [List.setIfInBounds_toArray]
    try simp only [List.set_cons_succ]
    try simp only [List.set_cons_zero]
    refine wpAnyH_sharper (S' := fun W => Below w7.heap.size w7 W) (fun W hW => h7.trans (hW.mono h7.size)) _ _ _ _ ?_
    have hHeld : Below w7.heap.size w7 w7 := Below.refl _ _
    refine wpAnyH_take (i := 11) (oi := ?_) (v := ?_) ?_ (by kernel_rfl) (by kernel_rfl) (by kernel_rfl) ?_ (Or.inl ⟨?_, ?_⟩) (by assumption) ?_
    rotate_left 2
    focus (simp only [List.getElem?_toArray, List.getElem?_cons_succ, List.getElem?_cons_zero]; rfl)
    focus exact fun _ _ _ h => h
    focus rfl
    focus (intro W hS; (try dsimp only at hS); have q := CP.out W hS; go_simp; (try with_reducible rfl))
    try simp only [Act.put]
    try simp only [List.setIfInBounds_toArray]
    try simp only [List.set_cons_succ]
    try simp only [List.set_cons_zero]
    refine wpAnyH_take (i := 12) (oi := ?_) (v := ?_) ?_ (by kernel_rfl) (by kernel_rfl) (by kernel_rfl) ?_ (Or.inl ⟨?_, ?_⟩) (by assumption) ?_
    rotate_left 2
    focus (simp only [List.getElem?_toArray, List.getElem?_cons_succ, List.getElem?_cons_zero]; rfl)
    focus exact fun _ _ _ h => h
    focus rfl
    focus (intro W hS; (try dsimp only at hS); go_simp; (try with_reducible rfl))
    try simp only [Act.put]
    try simp only [List.setIfInBounds_toArray]
    try simp only [List.set_cons_succ]
    try simp only [List.set_cons_zero]
    refine wpAnyH_take (i := 13) (oi := ?_) (v := ?_) ?_ (by kernel_rfl) (by kernel_rfl) (by kernel_rfl) ?_ (Or.inl ⟨?_, ?_⟩) (by assumption) ?_
    rotate_left 2
    focus (simp only [List.getElem?_toArray, List.getElem?_cons_succ, List.getElem?_cons_zero]; rfl)
    focus exact fun _ _ _ h => h
    focus rfl
    focus (intro W hS; (try dsimp only at hS); go_simp; (try with_reducible rfl))
    try simp only [Act.put]
    try simp only [List.setIfInBounds_toArray]
    try simp only [List.set_cons_succ]
    try simp only [List.set_cons_zero]
    refine wpAnyH_take (i := 14) (oi := ?_) (v := ?_) ?_ (by kernel_rfl) (by kernel_rfl) (by kernel_rfl) ?_ (Or.inl ⟨?_, ?_⟩) (by assumption) ?_
    rotate_left 2
    focus (simp only [List.getElem?_toArray, List.getElem?_cons_succ, List.getElem?_cons_zero]; rfl)
    focus exact fun _ _ _ h => h
    focus rfl
    focus (intro W hS; (try dsimp only at hS); go_simp; (try with_reducible rfl))
    try simp only [Act.put]
    try simp only [List.setIfInBounds_toArray]
    try simp only [List.set_cons_succ]
    try simp only [List.set_cons_zero]
    refine wpAnyH_take (i := 15) (oi := ?_) (v := ?_) ?_ (by kernel_rfl) (by kernel_rfl) (by kernel_rfl) ?_ (Or.inl ⟨?_, ?_⟩) (by assumption) ?_
    rotate_left 2
    focus (simp only [List.getElem?_toArray, List.getElem?_cons_succ, List.getElem?_cons_zero]; rfl)
    focus exact fun _ _ _ h => h
    focus rfl
    focus (intro W hS; (try dsimp only at hS); go_simp; (try with_reducible rfl))
    try simp only [Act.put]
    try simp only [List.setIfInBounds_toArray]
    try simp only [List.set_cons_succ]
    try simp only [List.set_cons_zero]
    refine wpAnyH_ready (rs := [16]) (by kernel_rfl) (by simp) ?_
    refine AllReadyH.cons (o := ?_) ?_ (fun K hK => ?_) AllReadyH.nil
    rotate_left
    focus (simp only [List.getElem?_toArray, List.getElem?_cons_succ, List.getElem?_cons_zero]; rfl)
    rw [if_pos (by rfl)]
    go_simp
    refine (HLS.out _ h7).mono ?_
    rintro r w8 ⟨ks, ka, kc, rfl, hks, -, hb8, -⟩
    obtain rfl := no_loose hks HLO.out
    have h8 : Below w7.heap.size w7 w8 := hb8
    simp only [List.length_nil]
    clear hks hb8
    go_wp2_with fail
    refine hK.out _ _ h8 (fun hHeld => ?_)
    clear hK K
    try simp only [Act.put]
    try simp only [List.setIfInBounds_toArray]
    try simp only [List.set_cons_succ]
    try simp only [List.set_cons_zero]
    refine wpAnyH_take (i := 17) (oi := ?_) (v := ?_) ?_ (by kernel_rfl) (by kernel_rfl) (by kernel_rfl) ?_ (Or.inl ⟨?_, ?_⟩) (by assumption) ?_
    rotate_left 2
    focus (simp only [List.getElem?_toArray, List.getElem?_cons_succ, List.getElem?_cons_zero]; rfl)
    focus exact fun _ _ _ h => h
    focus rfl
    focus (intro W hS; (try dsimp only at hS); go_simp; (try with_reducible rfl))
    try simp only [Act.put]
    try simp only [List.setIfInBounds_toArray]
    try simp only [List.set_cons_succ]
    try simp only [List.set_cons_zero]
    refine wpAnyH_take (i := 18) (oi := ?_) (v := ?_) ?_ (by kernel_rfl) (by kernel_rfl) (by kernel_rfl) ?_ (Or.inl ⟨?_, ?_⟩) (by assumption) ?_
    rotate_left 2
    focus (simp only [List.getElem?_toArray, List.getElem?_cons_succ, List.getElem?_cons_zero]; rfl)
    focus exact fun _ _ _ h => h
    focus rfl
    focus (intro W hS; (try dsimp only at hS); go_simp; (try with_reducible rfl))
    try simp only [Act.put]
    try simp only [List.setIfInBounds_toArray]
    try simp only [List.set_cons_succ]
    try simp only [List.set_cons_zero]
    refine wpAnyH_take (i := 19) (oi := ?_) (v := ?_) ?_ (by kernel_rfl) (by kernel_rfl) (by kernel_rfl) ?_ (Or.inl ⟨?_, ?_⟩) (by assumption) ?_
    rotate_left 2
    focus (simp only [List.getElem?_toArray, List.getElem?_cons_succ, List.getElem?_cons_zero]; rfl)
    focus exact fun _ _ _ h => h
    focus rfl
    focus (intro W hS; (try dsimp only at hS); go_simp; (try with_reducible rfl))
    try simp only [Act.put]
    try simp only [List.setIfInBounds_toArray]
    try simp only [List.set_cons_succ]
    try simp only [List.set_cons_zero]
    refine wpAnyH_done (by kernel_rfl) ?_ _
    have h68 := h7.trans (h8.mono h7.size)
    have HB8 := Lib.hid (HB6.out.trans (h68.mono HL6.out.hB))
    have HL8 := Lib.hid (HL6.out.below h68)
    have CY8 := Lib.hid (fun (W : World) (hW : Below w8.heap.size w8 W) => CY.out W (h68.trans (hW.mono h68.size)))
    clear h7 h8 h68 hHeld HPR HLS CX CP CY
    obtain ⟨⟨p0, p1⟩, u0, u1, u2⟩ := HIN.out w8 HB8.out
    have dL : decide ((262144 : Int) < (simg.length : Int)) = false := by simp; omega
    have HSH := Lib.hid (fun (W : World) (hW : Below w.heap.size w W) => refShot_any i s sa sc simg W HNM.out.2.1 HNM.out.2.2 (HSR.out.1.below hW) hLE HSR.out.2)
    have hsl := shot_len (i := i) (t := s) hLE
    clear dA dB
    go_wp2_with fail
    refine wp_region_held_drew (S := (fun W => Below w8.heap.size w8 W)) (by kernel_rfl) (Below.refl _ _).drew (fun hHeld => ?_)
    refine wpAnyH_take (i := 0) (oi := ?_) (v := ?_) ?_ (by kernel_rfl) (by kernel_rfl) (by kernel_rfl) ?_ (Or.inl ⟨?_, ?_⟩) (by assumption) ?_
    rotate_left 2
    focus (simp only [List.getElem?_toArray, List.getElem?_cons_zero]; rfl)
    focus exact fun _ _ _ h => h
    focus rfl
    focus (intro W hS; (try dsimp only at hS); go_simp; (try with_reducible rfl))
    try simp only [Act.put]
    try simp only [List.setIfInBounds_toArray]
    try simp only [List.set_cons_succ]
    try simp only [List.set_cons_zero]
    refine wpAnyH_take (i := 1) (oi := ?_) (v := ?_) ?_ (by kernel_rfl) (by kernel_rfl) (by kernel_rfl) ?_ (Or.inl ⟨?_, ?_⟩) (by assumption) ?_
    rotate_left 2
    focus (simp only [List.getElem?_toArray, List.getElem?_cons_succ, List.getElem?_cons_zero]; rfl)
    focus exact fun _ _ _ h => h
    focus rfl
    focus (intro W hS; (try dsimp only at hS); go_simp; (try with_reducible rfl))
    try simp only [Act.put]
    try simp only [List.setIfInBounds_toArray]
    try simp only [List.set_cons_succ]
    try simp only [List.set_cons_zero]
    refine wpAnyH_take (i := 2) (oi := ?_) (v := ?_) ?_ (by kernel_rfl) (by kernel_rfl) (by kernel_rfl) ?_ (Or.inl ⟨?_, ?_⟩) (by assumption) ?_
    rotate_left 2
    focus (simp only [List.getElem?_toArray, List.getElem?_cons_succ, List.getElem?_cons_zero]; rfl)
    focus exact fun _ _ _ h => h
    focus rfl
    focus (intro W hS; (try dsimp only at hS); go_simp; (try with_reducible rfl))
    try simp only [Act.put]
    try simp only [List.setIfInBounds_toArray]
    try simp only [List.set_cons_succ]
    try simp only [List.set_cons_zero]
    refine wpAnyH_take (i := 3) (oi := ?_) (v := ?_) ?_ (by kernel_rfl) (by kernel_rfl) (by kernel_rfl) ?_ (Or.inl ⟨?_, ?_⟩) (by assumption) ?_
    rotate_left 2
    focus (simp only [List.getElem?_toArray, List.getElem?_cons_succ, List.getElem?_cons_zero]; rfl)
    focus exact fun _ _ _ h => h
    focus rfl
    focus (intro W hS; (try dsimp only at hS); go_simp; (try with_reducible rfl))
    try simp only [Act.put]
    try simp only [List.setIfInBounds_toArray]
    try simp only [List.set_cons_succ]
    try simp only [List.set_cons_zero]
    refine wpAnyH_take (i := 4) (oi := ?_) (v := ?_) ?_ (by kernel_rfl) (by kernel_rfl) (by kernel_rfl) ?_ (Or.inl ⟨?_, ?_⟩) (by assumption) ?_
    rotate_left 2
    focus (simp only [List.getElem?_toArray, List.getElem?_cons_succ, List.getElem?_cons_zero]; rfl)
    focus exact fun _ _ _ h => h
    focus rfl
    focus (intro W hS; (try dsimp only at hS); go_simp; (try with_reducible rfl))
    try simp only [Act.put]
    try simp only [List.setIfInBounds_toArray]
    try simp only [List.set_cons_succ]
    try simp only [List.set_cons_zero]
    refine wpAnyH_take (i := 5) (oi := ?_) (v := ?_) ?_ (by kernel_rfl) (by kernel_rfl) (by kernel_rfl) ?_ (Or.inl ⟨?_, ?_⟩) (by assumption) ?_
    rotate_left 2
    focus (simp only [List.getElem?_toArray, List.getElem?_cons_succ, List.getElem?_cons_zero]; rfl)
    focus exact fun _ _ _ h => h
    focus rfl
    focus (intro W hS; (try dsimp only at hS); go_simp; (try with_reducible rfl))
    try simp only [Act.put]
    try simp only [List.setIfInBounds_toArray]
    try simp only [List.set_cons_succ]
    try simp only [List.set_cons_zero]
    refine wpAnyH_take (i := 6) (oi := ?_) (v := ?_) ?_ (by kernel_rfl) (by kernel_rfl) (by kernel_rfl) ?_ (Or.inl ⟨?_, ?_⟩) (by assumption) ?_
    rotate_left 2
    focus (simp only [List.getElem?_toArray, List.getElem?_cons_succ, List.getElem?_cons_zero]; rfl)
    focus exact fun _ _ _ h => h
    focus rfl
    focus (intro W hS; (try dsimp only at hS); go_simp; (try with_reducible rfl))
    try simp only [Act.put]
    try simp only [List.setIfInBounds_toArray]
    try simp only [List.set_cons_succ]
    try simp only [List.set_cons_zero]
    refine wpAnyH_take (i := 7) (oi := ?_) (v := ?_) ?_ (by kernel_rfl) (by kernel_rfl) (by kernel_rfl) ?_ (Or.inl ⟨?_, ?_⟩) (by assumption) ?_
    rotate_left 2
    focus (simp only [List.getElem?_toArray, List.getElem?_cons_succ, List.getElem?_cons_zero]; rfl)
    focus exact fun _ _ _ h => h
    focus rfl
    focus (intro W hS; (try dsimp only at hS); go_simp; (try with_reducible rfl))
    try simp only [Act.put]
    try simp only [List.setIfInBounds_toArray]
    try simp only [List.set_cons_succ]
    try simp only [List.set_cons_zero]
    refine wpAnyH_take (i := 8) (oi := ?_) (v := ?_) ?_ (by kernel_rfl) (by kernel_rfl) (by kernel_rfl) ?_ (Or.inl ⟨?_, ?_⟩) (by assumption) ?_
    rotate_left 2
    focus (simp only [List.getElem?_toArray, List.getElem?_cons_succ, List.getElem?_cons_zero]; rfl)
    focus exact fun _ _ _ h => h
    focus rfl
    focus (intro W hS; (try dsimp only at hS); have q := CY8.out W hS; go_simp; (try with_reducible rfl))
    try simp only [Act.put]
    try simp only [List.setIfInBounds_toArray]
    try simp only [List.set_cons_succ]
    try simp only [List.set_cons_zero]
    refine wpAnyH_take (i := 9) (oi := ?_) (v := ?_) ?_ (by kernel_rfl) (by kernel_rfl) (by kernel_rfl) ?_ (Or.inl ⟨?_, ?_⟩) (by assumption) ?_
    rotate_left 2
    focus (simp only [List.getElem?_toArray, List.getElem?_cons_succ, List.getElem?_cons_zero]; rfl)
    focus exact fun _ _ _ h => h
    focus rfl
    focus (intro W hS; (try dsimp only at hS); obtain ⟨⟨p0, p1⟩, u0, u1, u2⟩ := HIN.out W (HB8.out.trans (hS.mono HL8.out.hB)); go_simp; (try with_reducible rfl))
    try simp only [Act.put]
    try simp only [List.setIfInBounds_toArray]
    try simp only [List.set_cons_succ]
    try simp only [List.set_cons_zero]
    refine wpAnyH_ready (rs := [10]) (by kernel_rfl) (by simp) ?_
    refine AllReadyH.cons (o := ?_) ?_ (fun K hK => ?_) AllReadyH.nil
    rotate_left
    focus (simp only [List.getElem?_toArray, List.getElem?_cons_succ, List.getElem?_cons_zero]; rfl)
    rw [if_pos (by rfl)]
    go_simp
    refine (HSH.out _ (HB1.out.trans ((HB8.out.trans ((Below.refl w8.heap.size w8).drew.mono HL8.out.hB)).mono HB1.out.size))).mono ?_
    rintro r w9 ⟨g9, c9, rfl, hr9, hb9⟩
    have h9 : Below w8.heap.size w8 w9 := (Below.refl w8.heap.size w8).drew.trans hb9
    have CP := Lib.hid (fun (W : World) (hW : Below w9.heap.size w9 W) => hr9.text hW)
    clear hr9 hb9
    go_wp2_with fail
    refine hK.out _ _ h9 (fun hHeld => ?_)
    clear hK K
    try simp only [Act.put]
    try simp only [List.setIfInBounds_toArray]
    try simp only [List.set_cons_succ]
    try simp only [List.set_cons_zero]
    refine wpAnyH_sharper (S' := fun W => Below w9.heap.size w9 W) (fun W hW => h9.trans (hW.mono h9.size)) _ _ _ _ ?_
    have hHeld : Below w9.heap.size w9 w9 := Below.refl _ _
    refine wpAnyH_take (i := 11) (oi := ?_) (v := ?_) ?_ (by kernel_rfl) (by kernel_rfl) (by kernel_rfl) ?_ (Or.inl ⟨?_, ?_⟩) (by assumption) ?_
    rotate_left 2
    focus (simp only [List.getElem?_toArray, List.getElem?_cons_succ, List.getElem?_cons_zero]; rfl)
    focus exact fun _ _ _ h => h
    focus rfl
    focus (intro W hS; (try dsimp only at hS); have q := CP.out W hS; go_simp; (try with_reducible rfl))
    try simp only [Act.put]
    try simp only [List.setIfInBounds_toArray]
    try simp only [List.set_cons_succ]
    try simp only [List.set_cons_zero]
    refine wpAnyH_take (i := 12) (oi := ?_) (v := ?_) ?_ (by kernel_rfl) (by kernel_rfl) (by kernel_rfl) ?_ (Or.inl ⟨?_, ?_⟩) (by assumption) ?_
    rotate_left 2
    focus (simp only [List.getElem?_toArray, List.getElem?_cons_succ, List.getElem?_cons_zero]; rfl)
    focus exact fun _ _ _ h => h
    focus rfl
    focus (intro W hS; (try dsimp only at hS); go_simp; (try with_reducible rfl))
    try simp only [Act.put]
    try simp only [List.setIfInBounds_toArray]
    try simp only [List.set_cons_succ]
    try simp only [List.set_cons_zero]
    refine wpAnyH_take (i := 13) (oi := ?_) (v := ?_) ?_ (by kernel_rfl) (by kernel_rfl) (by kernel_rfl) ?_ (Or.inl ⟨?_, ?_⟩) (by assumption) ?_
    rotate_left 2
    focus (simp only [List.getElem?_toArray, List.getElem?_cons_succ, List.getElem?_cons_zero]; rfl)
    focus exact fun _ _ _ h => h
    focus rfl
    focus (intro W hS; (try dsimp only at hS); go_simp; (try with_reducible rfl))
    try simp only [Act.put]
    try simp only [List.setIfInBounds_toArray]
    try simp only [List.set_cons_succ]
    try simp only [List.set_cons_zero]
    refine wpAnyH_done (by kernel_rfl) ?_ _
    have HL9 := Lib.hid (HL8.out.below h9)
    have HB9 := Lib.hid (HB8.out.trans (h9.mono HL8.out.hB))
    clear h9 hHeld HSH CP CY8 p0 p1 u0 u1 u2
    have HRE1 := Lib.hid (replace_any (w1.heap.size + 1) w1.heap.size N4 o4 M4 voteN a abs.length ac abs w9 HL9.out.disk rfl (HAR.out.1.below (HB1.out.trans (HB9.out.mono HB1.out.size))) HAR.out.2.2.2 (by have := HAB.out; omega) (.inr (by omega)) (by decide) (by decide) (by omega) (fun l f hf => by have := (HL9.out.tame l f hf).2; omega) HL9.out.hB)
    go_wp2_with fail
    refine HRE1.out.mono ?_
    rintro e wa ⟨rfl, oa, hda, hsa⟩
    have htA : Tame (upd M4 voteN (some ((M4.at voteN).chg ⟨true, abs, abs.length⟩))) := tame_upd HL9.out.tame (by decide) fun f e => by cases e; rw [HMV.out]; simp [Fil.chg, sureF]
    have hla := HL9.out.step hsa hda htA (by have := cntN_le M4 voteN N4; omega)
    obtain ⟨NA, hNA⟩ : ∃ NA, NA = cntN M4 voteN N4 := ⟨_, rfl⟩
    have hNAb : NA ≤ 3 := by have := cntN_le M4 voteN N4; omega
    rw [← hNA] at hla
    have HBa := Lib.hid (HB9.out.trans (hsa.below (fun k e => HL9.out.disk.owns k e) HL9.out.hB))
    have HRE2 := Lib.hid (replace_any (w1.heap.size + 1) w1.heap.size NA oa _ shotN b bbs.length bc bbs wa hla.disk rfl (HBR.out.1.below (HB1.out.trans (HBa.out.mono HB1.out.size))) HBR.out.2.2.2 (by have := HAB.out; omega) (.inr (by omega)) (by decide) (by decide) (by omega) (fun l f hf => by have := (hla.tame l f hf).2; omega) hla.hB)
    have HLa := Lib.hid hla
    clear hda hsa hNA HRE1 hla htA
    go_wp2_with fail
    refine HRE2.out.mono ?_
    rintro e wb ⟨rfl, ob, hdb, hsb⟩
    obtain ⟨MA, hMA⟩ : ∃ MA, MA = upd M4 voteN (some ((M4.at voteN).chg ⟨true, abs, abs.length⟩)) := ⟨_, rfl⟩
    rw [← hMA] at hdb
    have htB : Tame (upd MA shotN (some ((MA.at shotN).chg ⟨true, bbs, bbs.length⟩))) := tame_upd (by rw [hMA]; exact HLa.out.tame) (by decide) fun f e => by
      cases e
      rw [hMA, upd_at_other _ _ (by decide), HMS.out]
      simp [Fil.chg, sureF]
    rw [← hMA] at HLa
    have hlb := HLa.out.step hsb hdb htB (by have := cntN_le MA shotN NA; omega)
    obtain ⟨MB, hMB⟩ : ∃ MB, MB = upd MA shotN (some ((MA.at shotN).chg ⟨true, bbs, bbs.length⟩)) := ⟨_, rfl⟩
    rw [← hMB] at hlb
    have hV : (MB.at voteN).now = ⟨true, abs, abs.length⟩ := by rw [hMB, upd_at_other _ _ (by decide), hMA, upd_at, chg_now]
    have hS : (MB.at shotN).now = ⟨true, bbs, bbs.length⟩ := by rw [hMB, upd_at, chg_now]
    have HBb := Lib.hid (HBa.out.trans (hsb.below (fun k e => HLa.out.disk.owns k e) HLa.out.hB))
    have HGT := Lib.hid (get_there (w1.heap.size + 1) w1.heap.size _ ob MB wb hlb (by rw [hV]) (by rw [hV]; have := HAB.out; show abs.length ≤ _; omega))
    rw [hV] at HGT
    have HLb := Lib.hid hlb
    have HVS := Lib.hid hS
    clear hdb hsb hMB hMA htB hlb hV hS HRE2
    go_wp2_with fail
    refine HGT.out.mono ?_
    rintro e wc ⟨hbc, r, hr, rfl⟩
    obtain ⟨gn, gm, ge, hge⟩ := getV_form r
    rw [hge]
    have halc : Below wc.heap.size wc (wc.alloc (.cells #[.int .u64 (gn : Int), .int .u64 (gm : Int)] 24)) := (Below.refl _ _).alloc (Nat.le_refl _) _
    have hqc := heap_alloc_new wc (.cells #[.int .u64 (gn : Int), .int .u64 (gm : Int)] 24)
    obtain ⟨wd, hwd⟩ : ∃ wd, wd = wc.alloc (.cells #[.int .u64 (gn : Int), .int .u64 (gm : Int)] 24) := ⟨_, rfl⟩
    rw [← hwd] at halc hqc
    have hbbd := hbc.trans (halc.mono hbc.size)
    have HBd := Lib.hid (HBb.out.trans (hbbd.mono HLb.out.hB))
    have HLd := Lib.hid (HLb.out.below hbbd)
    have HQC := Lib.hid hqc
    have HRG := Lib.hid (refGet_any a abs.length ac abs wd rfl (HAR.out.1.below (HB1.out.trans (HBd.out.mono HB1.out.size))) (by have := HAB.out; omega) HAR.out.2.1 HAR.out.2.2.1)
    have HR := Lib.hid hr
    have HGE := Lib.hid hge
    have HWD := Lib.hid hwd
    clear hbc hr hge halc hqc hwd hbbd HGT
    go_wp2_with fail
    rw [← HWD.out]
    refine HRG.out.mono ?_
    rintro e we ⟨hbe, r2, hr2, rfl⟩
    obtain rfl := hr2.one HR.out
    rw [HGE.out]
    have hale : Below we.heap.size we (we.alloc (.cells #[.int .u64 (gn : Int), .int .u64 (gm : Int)] 24)) := (Below.refl _ _).alloc (Nat.le_refl _) _
    have hqe := heap_alloc_new we (.cells #[.int .u64 (gn : Int), .int .u64 (gm : Int)] 24)
    obtain ⟨wf, hwf⟩ : ∃ wf, wf = we.alloc (.cells #[.int .u64 (gn : Int), .int .u64 (gm : Int)] 24) := ⟨_, rfl⟩
    rw [← hwf] at hale hqe
    have hbdf := hbe.trans (hale.mono hbe.size)
    have HDF := Lib.hid hbdf
    have HBf := Lib.hid (HBd.out.trans (hbdf.mono HLd.out.hB))
    have HLf := Lib.hid (HLd.out.below hbdf)
    have HQE := Lib.hid hqe
    have HKT := Lib.hid (kept_there (w1.heap.size + 1) w1.heap.size _ ob MB wf HLf.out (by rw [HVS.out]) (by rw [HVS.out]; have := HAB.out; show bbs.length ≤ _; omega))
    rw [HVS.out] at HKT
    have HWF := Lib.hid hwf
    clear hbe hr2 hale hqe hwf hbdf HRG
    go_wp2_with fail
    rw [← HWF.out]
    refine HKT.out.mono ?_
    rintro e wg ⟨hbg, r3, hr3, hkv⟩
    obtain ⟨ki, kt, ke, I, hform⟩ := keptV_form hr3
    obtain ⟨ka, kc, rfl, hrd⟩ := hform _ _ _ hkv
    have halg : Below wg.heap.size wg (wg.alloc (.cells #[.int .u64 (ki : Int), .int .u64 (kt : Int), .slice ka I.length kc] 27)) := (Below.refl _ _).alloc (Nat.le_refl _) _
    have hqg := heap_alloc_new wg (.cells #[.int .u64 (ki : Int), .int .u64 (kt : Int), .slice ka I.length kc] 27)
    obtain ⟨wh, hwh⟩ : ∃ wh, wh = wg.alloc (.cells #[.int .u64 (ki : Int), .int .u64 (kt : Int), .slice ka I.length kc] 27) := ⟨_, rfl⟩
    rw [← hwh] at halg hqg
    have hbfh := hbg.trans (halg.mono hbg.size)
    have HFH := Lib.hid hbfh
    have HBh := Lib.hid (HBf.out.trans (hbfh.mono HLf.out.hB))
    have HQG := Lib.hid hqg
    have HRDK := Lib.hid (hrd.below halg)
    have HR3 := Lib.hid hr3
    have HFORM := Lib.hid hform
    have HRK := Lib.hid (refKept_any b bbs.length bc bbs wh rfl (HBR.out.1.below (HB1.out.trans (HBh.out.mono HB1.out.size))) (by have := HAB.out; omega) HBR.out.2.1 HBR.out.2.2.1)
    have HWH := Lib.hid hwh
    have hszh : w1.heap.size ≤ wh.heap.size := HBh.out.size
    clear hbg hr3 hkv hform hrd halg hqg hwh hbfh HKT
    go_wp2_with fail
    rw [← HWH.out]
    refine HRK.out.mono ?_
    rintro e wi ⟨hbi, r4, hr4, hkv⟩
    obtain rfl := hr4.one HR3.out
    obtain ⟨la, lc, rfl, hrd⟩ := HFORM.out _ _ _ hkv
    have hali : Below wi.heap.size wi (wi.alloc (.cells #[.int .u64 (ki : Int), .int .u64 (kt : Int), .slice la I.length lc] 27)) := (Below.refl _ _).alloc (Nat.le_refl _) _
    have hqi := heap_alloc_new wi (.cells #[.int .u64 (ki : Int), .int .u64 (kt : Int), .slice la I.length lc] 27)
    obtain ⟨wj, hwj⟩ : ∃ wj, wj = wi.alloc (.cells #[.int .u64 (ki : Int), .int .u64 (kt : Int), .slice la I.length lc] 27) := ⟨_, rfl⟩
    rw [← hwj] at hali hqi
    have hbhj := hbi.trans (hali.mono hbi.size)
    have HHJ := Lib.hid hbhj
    have HQI := Lib.hid hqi
    have HRDL := Lib.hid (hrd.below hali)
    have HWJ := Lib.hid hwj
    have HGN := Lib.hid (get_no (.pointer none) wj (.inl rfl))
    clear hbi hr4 hkv hrd hali hqi hwj hbhj HRK
    go_wp2_with fail
    rw [← HWJ.out]
    refine HGN.out.mono ?_
    rintro e wk ⟨hbk, rfl⟩
    have halk : Below wk.heap.size wk (wk.alloc zeroP) := (Below.refl _ _).alloc (Nat.le_refl _) _
    have hbjk := hbk.trans (halk.mono hbk.size)
    obtain ⟨wl_, hwl⟩ : ∃ wl_, wl_ = wk.alloc zeroP := ⟨_, rfl⟩
    rw [← hwl] at hbjk
    have HJK := Lib.hid hbjk
    have HKN0 := Lib.hid (kept_no (.pointer none) wl_ (.inl rfl))
    have HWL := Lib.hid hwl
    clear hbk halk hbjk hwl HGN
    go_wp2_with fail
    rw [show wk.alloc (.cells #[.int .u64 0, .int .u64 0] 24) = wl_ from HWL.out.symm]
    refine HKN0.out.mono ?_
    rintro e wm ⟨hbm, rfl⟩
    have halm : Below wm.heap.size wm (wm.alloc zeroS) := (Below.refl _ _).alloc (Nat.le_refl _) _
    have hblm := hbm.trans (halm.mono hbm.size)
    obtain ⟨wn, hwn⟩ : ∃ wn, wn = wm.alloc zeroS := ⟨_, rfl⟩
    rw [← hwn] at hblm
    have hjn := HJK.out.trans (hblm.mono HJK.out.size)
    have hhn := HHJ.out.trans (hjn.mono HHJ.out.size)
    have hfn := HFH.out.trans (hhn.mono HFH.out.size)
    have hdn := HDF.out.trans (hfn.mono HDF.out.size)
    have HBn := Lib.hid (HBh.out.trans (hhn.mono hszh))
    have hqc := (hdn.block _ (lt_of_block HQC.out)).trans HQC.out
    have hqe := (hfn.block _ (lt_of_block HQE.out)).trans HQE.out
    have hqg := (hhn.block _ (lt_of_block HQG.out)).trans HQG.out
    have hqi := (hjn.block _ (lt_of_block HQI.out)).trans HQI.out
    obtain ⟨x0, x1⟩ := two_at hqc
    obtain ⟨y0, y1⟩ := two_at hqe
    obtain ⟨g0, g1, g2⟩ := three_at hqg
    obtain ⟨l0, l1, l2⟩ := three_at hqi
    have HSM := Lib.hid (refSame_eq ki kt ka la kc lc I wn (HRDK.out.below hhn) (HRDL.out.below hjn))
    have HWN := Lib.hid hwn
    rw [hwn] at x0 x1 y0 y1 g0 g1 g2 l0 l1 l2
    have hszn : w1.heap.size ≤ wn.heap.size := HBn.out.size
    clear hbm halm hblm hwn hjn hhn hfn hdn hqc hqe hqg hqi HKN0
    go_wp2_with fail
    rw [show wm.alloc (.cells #[.int .u64 0, .int .u64 0, .slice none 0 0] 27) = wn from HWN.out.symm]
    refine HSM.out.mono ?_
    rintro e wo ⟨rfl, hbo⟩
    have HBo := Lib.hid (HBn.out.trans (hbo.mono hszn))
    obtain ⟨⟨p0, p1⟩, v0, v1, v2⟩ := HIN.out wo HBo.out
    have HPN := Lib.hid (voteput_no (.pointer none) t v wo (.inl rfl) HNM.out.1.1 HNM.out.1.2)
    clear hbo HSM
    go_wp2_with fail
    refine HPN.out.mono ?_
    rintro e wp ⟨rfl, hbp⟩
    have HBp := Lib.hid (HBo.out.trans (hbp.mono HBo.out.size))
    obtain ⟨⟨z0, z1⟩, n0, n1, n2⟩ := HIN.out wp HBp.out
    have HKO := Lib.hid (keep_no (.pointer none) i s sa simg.length sc wp (.inl rfl))
    clear hbp HPN p0 p1 v0 v1 v2
    go_wp2_with fail
    refine HKO.out.mono ?_
    rintro e wq ⟨rfl, hbq⟩
    have HBq := Lib.hid (HB1.out.trans ((HBp.out.trans (hbq.mono HBp.out.size)).mono HB1.out.size))
    clear hbq HKO
    go_wp2_with fail
    go_ret
    exact ⟨rfl, HBq.out⟩
  have d2 : ((simg.length : Int) != 262144) = true := by rw [bne_iff_ne]; omega
  by_cases c3 : simg.length = 262145
  · have d3 : ((simg.length : Int) != 262145) = false := by rw [c3]; rfl
    have hLG : 262144 < simg.length := by omega
    clear c1 c2 c3
    go_wp2_with fail
    refine HNEW.out.mono ?_
    rintro e w2 ⟨rfl, hb2, o2, hd2, ho2⟩
    have hl2 : Liv w2 w1.heap.size o2 (w1.heap.size + 1) (fun _ => none) 0 := ⟨hd2, hb2.size, (fun l f hf => by cases hf), by decide⟩
    have HIN := Lib.hid (show ∀ W, Below w1.heap.size w1 W → (W.cell? ⟨w.heap.size, 0, none⟩ = some (.int .u64 (t : Int)) ∧ W.cell? ⟨w.heap.size, 1, none⟩ = some (.int .u64 (v : Int))) ∧ W.cell? ⟨w.heap.size + 1, 0, none⟩ = some (.int .u64 (i : Int)) ∧ W.cell? ⟨w.heap.size + 1, 1, none⟩ = some (.int .u64 (s : Int)) ∧ W.cell? ⟨w.heap.size + 1, 2, none⟩ = some (.slice sa simg.length sc) from fun W h =>
      ⟨two_at ((h.block _ (lt_of_block HPB1.out)).trans HPB1.out), three_at ((h.block _ (lt_of_block HSB1.out)).trans HSB1.out)⟩)
    have HL2 := Lib.hid hl2
    have HB2 := Lib.hid hb2
    clear hl2 hd2 hb2 ho2 s0 s1 s2 HNEW
    go_wp2_with fail
    refine wp_region_held_drew (S := (fun W => (W.cell? ⟨w.heap.size, 0, none⟩ = some (.int .u64 (t : Int)) ∧ W.cell? ⟨w.heap.size, 1, none⟩ = some (.int .u64 (v : Int))) ∧ W.cell? ⟨w.heap.size + 1, 0, none⟩ = some (.int .u64 (i : Int)) ∧ W.cell? ⟨w.heap.size + 1, 1, none⟩ = some (.int .u64 (s : Int)) ∧ W.cell? ⟨w.heap.size + 1, 2, none⟩ = some (.slice sa simg.length sc))) (by kernel_rfl) (HIN.out _ HB2.out.drew) (fun hHeld => ?_)
    refine wpAnyH_take (i := 0) (oi := ?_) (v := ?_) ?_ (by kernel_rfl) (by kernel_rfl) (by kernel_rfl) ?_ (Or.inl ⟨?_, ?_⟩) (by assumption) ?_
    rotate_left 2
    focus (simp only [List.getElem?_toArray, List.getElem?_cons_zero]; rfl)
    focus exact fun _ _ _ h => h
    focus rfl
    focus (intro W hS; (try dsimp only at hS); go_simp; (try with_reducible rfl))
    try simp only [Act.put]
    try simp only [List.setIfInBounds_toArray]
    try simp only [List.set_cons_succ]
    try simp only [List.set_cons_zero]
    refine wpAnyH_take (i := 1) (oi := ?_) (v := ?_) ?_ (by kernel_rfl) (by kernel_rfl) (by kernel_rfl) ?_ (Or.inl ⟨?_, ?_⟩) (by assumption) ?_
    rotate_left 2
    focus (simp only [List.getElem?_toArray, List.getElem?_cons_succ, List.getElem?_cons_zero]; rfl)
    focus exact fun _ _ _ h => h
    focus rfl
    focus (intro W hS; (try dsimp only at hS); obtain ⟨⟨p0, p1⟩, u0, u1, u2⟩ := hS; go_simp; (try with_reducible rfl))
    try simp only [Act.put]
    try simp only [List.setIfInBounds_toArray]
    try simp only [List.set_cons_succ]
    try simp only [List.set_cons_zero]
    refine wpAnyH_take (i := 3) (oi := ?_) (v := ?_) ?_ (by kernel_rfl) (by kernel_rfl) (by kernel_rfl) ?_ (Or.inl ⟨?_, ?_⟩) (by assumption) ?_
    rotate_left 2
    focus (simp only [List.getElem?_toArray, List.getElem?_cons_succ, List.getElem?_cons_zero]; rfl)
    focus exact fun _ _ _ h => h
    focus rfl
    focus (intro W hS; (try dsimp only at hS); go_simp; (try with_reducible rfl))
    try simp only [Act.put]
    try simp only [List.setIfInBounds_toArray]
    try simp only [List.set_cons_succ]
    try simp only [List.set_cons_zero]
    refine wpAnyH_take (i := 4) (oi := ?_) (v := ?_) ?_ (by kernel_rfl) (by kernel_rfl) (by kernel_rfl) ?_ (Or.inl ⟨?_, ?_⟩) (by assumption) ?_
    rotate_left 2
    focus (simp only [List.getElem?_toArray, List.getElem?_cons_succ, List.getElem?_cons_zero]; rfl)
    focus exact fun _ _ _ h => h
    focus rfl
    focus (intro W hS; (try dsimp only at hS); obtain ⟨⟨p0, p1⟩, u0, u1, u2⟩ := hS; go_simp; (try with_reducible rfl))
    try simp only [Act.put]
    try simp only [List.setIfInBounds_toArray]
    try simp only [List.set_cons_succ]
    try simp only [List.set_cons_zero]
    refine wpAnyH_ready (rs := [2]) (by kernel_rfl) (by simp) ?_
    refine AllReadyH.cons (o := ?_) ?_ (fun K hK => ?_) AllReadyH.nil
    rotate_left
    focus (simp only [List.getElem?_toArray, List.getElem?_cons_succ, List.getElem?_cons_zero]; rfl)
    rw [if_pos (by rfl)]
    go_simp
    have HPT := Lib.hid (voteput_any (w1.heap.size + 1) w1.heap.size 0 o2 (fun _ => none) t v w2.drew (HL2.out.below ⟨rfl, rfl, rfl, Nat.le_refl _, fun _ _ => rfl⟩) HNM.out.1.1 HNM.out.1.2)
    refine HPT.out.mono ?_
    rintro r w3 ⟨rfl, o3, hd3, hs3⟩
    have hl2d := HL2.out.below (w' := w2.drew) ⟨rfl, rfl, rfl, Nat.le_refl _, fun _ _ => rfl⟩
    have hl3 := hl2d.put hs3 hd3 (by decide) (by decide)
    obtain ⟨N3, hN3⟩ : ∃ N3, N3 = cntN (fun _ => none : Files) voteN 0 := ⟨_, rfl⟩
    have hN3b : N3 ≤ 1 := by have := cntN_le (fun _ => none : Files) voteN 0; omega
    obtain ⟨M3, hM3⟩ : ∃ M3, M3 = upd (fun _ => none : Files) voteN (some (sureF (Vt.voteOf t v))) := ⟨_, rfl⟩
    rw [← hN3, ← hM3] at hl3
    have HL3 := Lib.hid hl3
    have HM3 := Lib.hid hM3
    have HB3 := Lib.hid (show Below w1.heap.size w1 w3 from HB2.out.trans ((show Below w1.heap.size w2 w2.drew from ⟨rfl, rfl, rfl, Nat.le_refl _, fun _ _ => rfl⟩).trans (hs3.below (fun k e => hl2d.disk.owns k e) hl2d.hB)))
    clear hl2d hl3 hd3 hs3 hN3 hM3 HPT
    go_wp2_with fail
    refine hK.out _ _ (HIN.out _ HB3.out) (fun hHeld => ?_)
    clear hK K
    try simp only [Act.put]
    try simp only [List.setIfInBounds_toArray]
    try simp only [List.set_cons_succ]
    try simp only [List.set_cons_zero]
    refine wpAnyH_ready (rs := [5]) (by kernel_rfl) (by simp) ?_
    refine AllReadyH.cons (o := ?_) ?_ (fun K hK => ?_) AllReadyH.nil
    rotate_left
    focus (simp only [List.getElem?_toArray, List.getElem?_cons_succ, List.getElem?_cons_zero]; rfl)
    rw [if_pos (by rfl)]
    go_simp
    have HKP := Lib.hid (keep_long (w1.heap.size + 1) w1.heap.size N3 o3 M3 i s sa simg.length sc w3 HL3.out hLG)
    refine HKP.out.mono ?_
    rintro r w4 ⟨rfl, hb4⟩
    obtain ⟨N4, hN4⟩ : ∃ N4, N4 = N3 := ⟨_, rfl⟩
    have hN4b : N4 ≤ 2 := by omega
    obtain ⟨M4, hM4⟩ : ∃ M4, M4 = M3 := ⟨_, rfl⟩
    obtain ⟨o4, ho4⟩ : ∃ o4, o4 = o3 := ⟨_, rfl⟩
    have hl4 := HL3.out.below hb4
    rw [← hN4, ← hM4, ← ho4] at hl4
    have HMV := Lib.hid (show M4.at voteN = sureF (Vt.voteOf t v) by rw [hM4, HM3.out, upd_at])
    have HMS := Lib.hid (show M4.at shotN = Fil.zero by rw [hM4, HM3.out, upd_at_other _ _ (by decide)]; rfl)
    have HLO := Lib.hid (show ∀ n f, M4 n = some f → f.loose = false by
      intro n f hf
      rw [hM4, HM3.out] at hf
      unfold upd at hf
      split at hf
      · cases hf; rfl
      · cases hf)
    have HL4 := Lib.hid hl4
    have HB4 := Lib.hid (HB3.out.trans (hb4.mono HL3.out.hB))
    clear hl4 hb4 hN4 hM4 ho4 HKP
    go_wp2_with fail
    refine hK.out _ _ (HIN.out _ HB4.out) (fun hHeld => ?_)
    clear hK K
    try simp only [Act.put]
    try simp only [List.setIfInBounds_toArray]
    try simp only [List.set_cons_succ]
    try simp only [List.set_cons_zero]
    refine wpAnyH_take (i := 6) (oi := ?_) (v := ?_) ?_ (by kernel_rfl) (by kernel_rfl) (by kernel_rfl) ?_ (Or.inl ⟨?_, ?_⟩) (by assumption) ?_
    rotate_left 2
    focus (simp only [List.getElem?_toArray, List.getElem?_cons_succ, List.getElem?_cons_zero]; rfl)
    focus exact fun _ _ _ h => h
    focus rfl
    focus (intro W hS; (try dsimp only at hS); go_simp; (try with_reducible rfl))
    try simp only [Act.put]
    try simp only [List.setIfInBounds_toArray]
    try simp only [List.set_cons_succ]
    try simp only [List.set_cons_zero]
    refine wpAnyH_take (i := 7) (oi := ?_) (v := ?_) ?_ (by kernel_rfl) (by kernel_rfl) (by kernel_rfl) ?_ (Or.inl ⟨?_, ?_⟩) (by assumption) ?_
    rotate_left 2
    focus (simp only [List.getElem?_toArray, List.getElem?_cons_succ, List.getElem?_cons_zero]; rfl)
    focus exact fun _ _ _ h => h
    focus rfl
    focus (intro W hS; (try dsimp only at hS); go_simp; (try with_reducible rfl))
    try simp only [Act.put]
    try simp only [List.setIfInBounds_toArray]
    try simp only [List.set_cons_succ]
    try simp only [List.set_cons_zero]
    refine wpAnyH_done (by kernel_rfl) ?_ _
    have HR1 := Lib.hid (read_of (.pointer (some ⟨w1.heap.size + 1, 0, none⟩)) (.string ⟨voteN.toArray⟩) w4 w1.heap.size o4 voteN (M4.at voteN) (Lib.hid (file_any (w1.heap.size + 1) w1.heap.size N4 o4 M4 voteN w4 HL4.out.disk (by decide))) (Lib.hid fun k e => (HL4.out.disk.owns k e).2) (HL4.out.at_ voteN))
    rw [HMV.out] at HR1
    simp only [sure_now] at HR1
    clear hHeld
    go_wp2_with fail
    refine HR1.out.mono ?_
    rintro e w5 ⟨xa, xc, rfl, hrx, hb5⟩
    have hl5 := HL4.out.below hb5
    have HR2 := Lib.hid (read_of (.pointer (some ⟨w1.heap.size + 1, 0, none⟩)) (.string ⟨shotN.toArray⟩) w5 w1.heap.size o4 shotN (M4.at shotN) (Lib.hid (file_any (w1.heap.size + 1) w1.heap.size N4 o4 M4 shotN w5 hl5.disk (by decide))) (Lib.hid fun k e => (hl5.disk.owns k e).2) (hl5.at_ shotN))
    rw [HMS.out] at HR2
    rw [show Fil.zero.now = Ver.zero from rfl] at HR2
    simp only [Ver.zero, List.length_nil] at HR2
    have HRX := Lib.hid hrx
    have HL5 := Lib.hid hl5
    have HB5 := Lib.hid (HB4.out.trans (hb5.mono HL4.out.hB))
    clear hrx hb5 hl5 HR1
    go_wp2_with fail
    refine HR2.out.mono ?_
    rintro e w6 ⟨ya, yc, rfl, hry, hb6⟩
    have hl6 := HL5.out.below hb6
    have HRY := Lib.hid hry
    have HRX6 := Lib.hid (HRX.out.below hb6)
    have HL6 := Lib.hid hl6
    have HB6 := Lib.hid (HB5.out.trans (hb6.mono HL5.out.hB))
    have HPR := Lib.hid (fun W => refPromise_any t v W HNM.out.1.1 HNM.out.1.2)
    have HLS := Lib.hid (fun W (hW : Below w6.heap.size w6 W) => loose_all (w1.heap.size + 1) w1.heap.size N4 o4 M4 W (HL6.out.disk.below hW) (by omega) (fun l f hf => by have := (HL6.out.tame l f hf).2; omega))
    have CX := Lib.hid (fun (W : World) (hW : Below w6.heap.size w6 W) => HRX6.out.text hW)
    have CY := Lib.hid (fun (W : World) (hW : Below w6.heap.size w6 W) => HRY.out.text hW)
    have hvl := vote_len t v
    clear hry hb6 hl6 HR2
    go_wp2_with fail
    refine wp_region_held_drew (S := (fun W => Below w6.heap.size w6 W)) (by kernel_rfl) (Below.refl _ _).drew (fun hHeld => ?_)
    refine wpAnyH_take (i := 0) (oi := ?_) (v := ?_) ?_ (by kernel_rfl) (by kernel_rfl) (by kernel_rfl) ?_ (Or.inl ⟨?_, ?_⟩) (by assumption) ?_
    rotate_left 2
    focus (simp only [List.getElem?_toArray, List.getElem?_cons_zero]; rfl)
    focus exact fun _ _ _ h => h
    focus rfl
    focus (intro W hS; (try dsimp only at hS); go_simp; (try with_reducible rfl))
    try simp only [Act.put]
    try simp only [List.setIfInBounds_toArray]
    try simp only [List.set_cons_succ]
    try simp only [List.set_cons_zero]
    refine wpAnyH_take (i := 1) (oi := ?_) (v := ?_) ?_ (by kernel_rfl) (by kernel_rfl) (by kernel_rfl) ?_ (Or.inl ⟨?_, ?_⟩) (by assumption) ?_
    rotate_left 2
    focus (simp only [List.getElem?_toArray, List.getElem?_cons_succ, List.getElem?_cons_zero]; rfl)
    focus exact fun _ _ _ h => h
    focus rfl
    focus (intro W hS; (try dsimp only at hS); go_simp; (try with_reducible rfl))
    try simp only [Act.put]
    try simp only [List.setIfInBounds_toArray]
    try simp only [List.set_cons_succ]
    try simp only [List.set_cons_zero]
    refine wpAnyH_take (i := 2) (oi := ?_) (v := ?_) ?_ (by kernel_rfl) (by kernel_rfl) (by kernel_rfl) ?_ (Or.inl ⟨?_, ?_⟩) (by assumption) ?_
    rotate_left 2
    focus (simp only [List.getElem?_toArray, List.getElem?_cons_succ, List.getElem?_cons_zero]; rfl)
    focus exact fun _ _ _ h => h
    focus rfl
    focus (intro W hS; (try dsimp only at hS); go_simp; (try with_reducible rfl))
    try simp only [Act.put]
    try simp only [List.setIfInBounds_toArray]
    try simp only [List.set_cons_succ]
    try simp only [List.set_cons_zero]
    refine wpAnyH_take (i := 3) (oi := ?_) (v := ?_) ?_ (by kernel_rfl) (by kernel_rfl) (by kernel_rfl) ?_ (Or.inl ⟨?_, ?_⟩) (by assumption) ?_
    rotate_left 2
    focus (simp only [List.getElem?_toArray, List.getElem?_cons_succ, List.getElem?_cons_zero]; rfl)
    focus exact fun _ _ _ h => h
    focus rfl
    focus (intro W hS; (try dsimp only at hS); go_simp; (try with_reducible rfl))
    try simp only [Act.put]
    try simp only [List.setIfInBounds_toArray]
    try simp only [List.set_cons_succ]
    try simp only [List.set_cons_zero]
    refine wpAnyH_take (i := 4) (oi := ?_) (v := ?_) ?_ (by kernel_rfl) (by kernel_rfl) (by kernel_rfl) ?_ (Or.inl ⟨?_, ?_⟩) (by assumption) ?_
    rotate_left 2
    focus (simp only [List.getElem?_toArray, List.getElem?_cons_succ, List.getElem?_cons_zero]; rfl)
    focus exact fun _ _ _ h => h
    focus rfl
    focus (intro W hS; (try dsimp only at hS); go_simp; (try with_reducible rfl))
    try simp only [Act.put]
    try simp only [List.setIfInBounds_toArray]
    try simp only [List.set_cons_succ]
    try simp only [List.set_cons_zero]
    refine wpAnyH_take (i := 5) (oi := ?_) (v := ?_) ?_ (by kernel_rfl) (by kernel_rfl) (by kernel_rfl) ?_ (Or.inl ⟨?_, ?_⟩) (by assumption) ?_
    rotate_left 2
    focus (simp only [List.getElem?_toArray, List.getElem?_cons_succ, List.getElem?_cons_zero]; rfl)
    focus exact fun _ _ _ h => h
    focus rfl
    focus (intro W hS; (try dsimp only at hS); go_simp; (try with_reducible rfl))
    try simp only [Act.put]
    try simp only [List.setIfInBounds_toArray]
    try simp only [List.set_cons_succ]
    try simp only [List.set_cons_zero]
    refine wpAnyH_take (i := 6) (oi := ?_) (v := ?_) ?_ (by kernel_rfl) (by kernel_rfl) (by kernel_rfl) ?_ (Or.inl ⟨?_, ?_⟩) (by assumption) ?_
    rotate_left 2
    focus (simp only [List.getElem?_toArray, List.getElem?_cons_succ, List.getElem?_cons_zero]; rfl)
    focus exact fun _ _ _ h => h
    focus rfl
    focus (intro W hS; (try dsimp only at hS); go_simp; (try with_reducible rfl))
    try simp only [Act.put]
    try simp only [List.setIfInBounds_toArray]
    try simp only [List.set_cons_succ]
    try simp only [List.set_cons_zero]
    refine wpAnyH_take (i := 7) (oi := ?_) (v := ?_) ?_ (by kernel_rfl) (by kernel_rfl) (by kernel_rfl) ?_ (Or.inl ⟨?_, ?_⟩) (by assumption) ?_
    rotate_left 2
    focus (simp only [List.getElem?_toArray, List.getElem?_cons_succ, List.getElem?_cons_zero]; rfl)
    focus exact fun _ _ _ h => h
    focus rfl
    focus (intro W hS; (try dsimp only at hS); go_simp; (try with_reducible rfl))
    try simp only [Act.put]
    try simp only [List.setIfInBounds_toArray]
    try simp only [List.set_cons_succ]
    try simp only [List.set_cons_zero]
    refine wpAnyH_take (i := 8) (oi := ?_) (v := ?_) ?_ (by kernel_rfl) (by kernel_rfl) (by kernel_rfl) ?_ (Or.inl ⟨?_, ?_⟩) (by assumption) ?_
    rotate_left 2
    focus (simp only [List.getElem?_toArray, List.getElem?_cons_succ, List.getElem?_cons_zero]; rfl)
    focus exact fun _ _ _ h => h
    focus rfl
    focus (intro W hS; (try dsimp only at hS); have q := CX.out W hS; go_simp; (try with_reducible rfl))
    try simp only [Act.put]
    try simp only [List.setIfInBounds_toArray]
    try simp only [List.set_cons_succ]
    try simp only [List.set_cons_zero]
    refine wpAnyH_take (i := 9) (oi := ?_) (v := ?_) ?_ (by kernel_rfl) (by kernel_rfl) (by kernel_rfl) ?_ (Or.inl ⟨?_, ?_⟩) (by assumption) ?_
    rotate_left 2
    focus (simp only [List.getElem?_toArray, List.getElem?_cons_succ, List.getElem?_cons_zero]; rfl)
    focus exact fun _ _ _ h => h
    focus rfl
    focus (intro W hS; (try dsimp only at hS); obtain ⟨⟨p0, p1⟩, u0, u1, u2⟩ := HIN.out W (HB6.out.trans (hS.mono HL6.out.hB)); go_simp; (try with_reducible rfl))
    try simp only [Act.put]
    try simp only [List.setIfInBounds_toArray]
    try simp only [List.set_cons_succ]
    try simp only [List.set_cons_zero]
    refine wpAnyH_ready (rs := [10]) (by kernel_rfl) (by simp) ?_
    refine AllReadyH.cons (o := ?_) ?_ (fun K hK => ?_) AllReadyH.nil
    rotate_left
    focus (simp only [List.getElem?_toArray, List.getElem?_cons_succ, List.getElem?_cons_zero]; rfl)
    rw [if_pos (by rfl)]
    go_simp
    refine (HPR.out _).mono ?_
    rintro r w7 ⟨g7, c7, rfl, hr7, hb7⟩
    have h7 : Below w6.heap.size w6 w7 := (Below.refl w6.heap.size w6).drew.trans hb7
    have CP := Lib.hid (fun (W : World) (hW : Below w7.heap.size w7 W) => hr7.text hW)
    clear hr7 hb7
    go_wp2_with fail
    refine hK.out _ _ h7 (fun hHeld => ?_)
    clear hK K
    try simp only [Act.put]
    try simp only [List.setIfInBounds_toArray]
    try simp only [List.set_cons_succ]
    try simp only [List.set_cons_zero]
    refine wpAnyH_sharper (S' := fun W => Below w7.heap.size w7 W) (fun W hW => h7.trans (hW.mono h7.size)) _ _ _ _ ?_
    have hHeld : Below w7.heap.size w7 w7 := Below.refl _ _
    refine wpAnyH_take (i := 11) (oi := ?_) (v := ?_) ?_ (by kernel_rfl) (by kernel_rfl) (by kernel_rfl) ?_ (Or.inl ⟨?_, ?_⟩) (by assumption) ?_
    rotate_left 2
    focus (simp only [List.getElem?_toArray, List.getElem?_cons_succ, List.getElem?_cons_zero]; rfl)
    focus exact fun _ _ _ h => h
    focus rfl
    focus (intro W hS; (try dsimp only at hS); have q := CP.out W hS; go_simp; (try with_reducible rfl))
    try simp only [Act.put]
    try simp only [List.setIfInBounds_toArray]
    try simp only [List.set_cons_succ]
    try simp only [List.set_cons_zero]
    refine wpAnyH_take (i := 12) (oi := ?_) (v := ?_) ?_ (by kernel_rfl) (by kernel_rfl) (by kernel_rfl) ?_ (Or.inl ⟨?_, ?_⟩) (by assumption) ?_
    rotate_left 2
    focus (simp only [List.getElem?_toArray, List.getElem?_cons_succ, List.getElem?_cons_zero]; rfl)
    focus exact fun _ _ _ h => h
    focus rfl
    focus (intro W hS; (try dsimp only at hS); go_simp; (try with_reducible rfl))
    try simp only [Act.put]
    try simp only [List.setIfInBounds_toArray]
    try simp only [List.set_cons_succ]
    try simp only [List.set_cons_zero]
    refine wpAnyH_take (i := 13) (oi := ?_) (v := ?_) ?_ (by kernel_rfl) (by kernel_rfl) (by kernel_rfl) ?_ (Or.inl ⟨?_, ?_⟩) (by assumption) ?_
    rotate_left 2
    focus (simp only [List.getElem?_toArray, List.getElem?_cons_succ, List.getElem?_cons_zero]; rfl)
    focus exact fun _ _ _ h => h
    focus rfl
    focus (intro W hS; (try dsimp only at hS); go_simp; (try with_reducible rfl))
    try simp only [Act.put]
    try simp only [List.setIfInBounds_toArray]
    try simp only [List.set_cons_succ]
    try simp only [List.set_cons_zero]
    refine wpAnyH_take (i := 14) (oi := ?_) (v := ?_) ?_ (by kernel_rfl) (by kernel_rfl) (by kernel_rfl) ?_ (Or.inl ⟨?_, ?_⟩) (by assumption) ?_
    rotate_left 2
    focus (simp only [List.getElem?_toArray, List.getElem?_cons_succ, List.getElem?_cons_zero]; rfl)
    focus exact fun _ _ _ h => h
    focus rfl
    focus (intro W hS; (try dsimp only at hS); go_simp; (try with_reducible rfl))
    try simp only [Act.put]
    try simp only [List.setIfInBounds_toArray]
    try simp only [List.set_cons_succ]
    try simp only [List.set_cons_zero]
    refine wpAnyH_take (i := 15) (oi := ?_) (v := ?_) ?_ (by kernel_rfl) (by kernel_rfl) (by kernel_rfl) ?_ (Or.inl ⟨?_, ?_⟩) (by assumption) ?_
    rotate_left 2
    focus (simp only [List.getElem?_toArray, List.getElem?_cons_succ, List.getElem?_cons_zero]; rfl)
    focus exact fun _ _ _ h => h
    focus rfl
    focus (intro W hS; (try dsimp only at hS); go_simp; (try with_reducible rfl))
    try simp only [Act.put]
    try simp only [List.setIfInBounds_toArray]
    try simp only [List.set_cons_succ]
    try simp only [List.set_cons_zero]
    refine wpAnyH_ready (rs := [16]) (by kernel_rfl) (by simp) ?_
    refine AllReadyH.cons (o := ?_) ?_ (fun K hK => ?_) AllReadyH.nil
    rotate_left
    focus (simp only [List.getElem?_toArray, List.getElem?_cons_succ, List.getElem?_cons_zero]; rfl)
    rw [if_pos (by rfl)]
    go_simp
    refine (HLS.out _ h7).mono ?_
    rintro r w8 ⟨ks, ka, kc, rfl, hks, -, hb8, -⟩
    obtain rfl := no_loose hks HLO.out
    have h8 : Below w7.heap.size w7 w8 := hb8
    simp only [List.length_nil]
    clear hks hb8
    go_wp2_with fail
    refine hK.out _ _ h8 (fun hHeld => ?_)
    clear hK K
    try simp only [Act.put]
    try simp only [List.setIfInBounds_toArray]
    try simp only [List.set_cons_succ]
    try simp only [List.set_cons_zero]
    refine wpAnyH_take (i := 17) (oi := ?_) (v := ?_) ?_ (by kernel_rfl) (by kernel_rfl) (by kernel_rfl) ?_ (Or.inl ⟨?_, ?_⟩) (by assumption) ?_
    rotate_left 2
    focus (simp only [List.getElem?_toArray, List.getElem?_cons_succ, List.getElem?_cons_zero]; rfl)
    focus exact fun _ _ _ h => h
    focus rfl
    focus (intro W hS; (try dsimp only at hS); go_simp; (try with_reducible rfl))
    try simp only [Act.put]
    try simp only [List.setIfInBounds_toArray]
    try simp only [List.set_cons_succ]
    try simp only [List.set_cons_zero]
    refine wpAnyH_take (i := 18) (oi := ?_) (v := ?_) ?_ (by kernel_rfl) (by kernel_rfl) (by kernel_rfl) ?_ (Or.inl ⟨?_, ?_⟩) (by assumption) ?_
    rotate_left 2
    focus (simp only [List.getElem?_toArray, List.getElem?_cons_succ, List.getElem?_cons_zero]; rfl)
    focus exact fun _ _ _ h => h
    focus rfl
    focus (intro W hS; (try dsimp only at hS); go_simp; (try with_reducible rfl))
    try simp only [Act.put]
    try simp only [List.setIfInBounds_toArray]
    try simp only [List.set_cons_succ]
    try simp only [List.set_cons_zero]
    refine wpAnyH_take (i := 19) (oi := ?_) (v := ?_) ?_ (by kernel_rfl) (by kernel_rfl) (by kernel_rfl) ?_ (Or.inl ⟨?_, ?_⟩) (by assumption) ?_
    rotate_left 2
    focus (simp only [List.getElem?_toArray, List.getElem?_cons_succ, List.getElem?_cons_zero]; rfl)
    focus exact fun _ _ _ h => h
    focus rfl
    focus (intro W hS; (try dsimp only at hS); go_simp; (try with_reducible rfl))
    try simp only [Act.put]
    try simp only [List.setIfInBounds_toArray]
    try simp only [List.set_cons_succ]
    try simp only [List.set_cons_zero]
    refine wpAnyH_done (by kernel_rfl) ?_ _
    have h68 := h7.trans (h8.mono h7.size)
    have HB8 := Lib.hid (HB6.out.trans (h68.mono HL6.out.hB))
    have HL8 := Lib.hid (HL6.out.below h68)
    have CY8 := Lib.hid (fun (W : World) (hW : Below w8.heap.size w8 W) => CY.out W (h68.trans (hW.mono h68.size)))
    clear h7 h8 h68 hHeld HPR HLS CX CP CY
    obtain ⟨⟨p0, p1⟩, u0, u1, u2⟩ := HIN.out w8 HB8.out
    have dL : decide ((262144 : Int) < (simg.length : Int)) = true := by simp; omega
    clear dA dB CY8
    obtain ⟨w9, hw9⟩ : ∃ w9, w9 = w8 := ⟨_, rfl⟩
    have HL9 := Lib.hid HL8.out
    have HB9 := Lib.hid HB8.out
    rw [← hw9] at HL9 HB9 u0 u1 u2 ⊢
    clear hw9 p0 p1
    have HRE1 := Lib.hid (replace_any (w1.heap.size + 1) w1.heap.size N4 o4 M4 voteN a abs.length ac abs w9 HL9.out.disk rfl (HAR.out.1.below (HB1.out.trans (HB9.out.mono HB1.out.size))) HAR.out.2.2.2 (by have := HAB.out; omega) (.inr (by omega)) (by decide) (by decide) (by omega) (fun l f hf => by have := (HL9.out.tame l f hf).2; omega) HL9.out.hB)
    go_wp2_with fail
    refine HRE1.out.mono ?_
    rintro e wa ⟨rfl, oa, hda, hsa⟩
    have htA : Tame (upd M4 voteN (some ((M4.at voteN).chg ⟨true, abs, abs.length⟩))) := tame_upd HL9.out.tame (by decide) fun f e => by cases e; rw [HMV.out]; simp [Fil.chg, sureF]
    have hla := HL9.out.step hsa hda htA (by have := cntN_le M4 voteN N4; omega)
    obtain ⟨NA, hNA⟩ : ∃ NA, NA = cntN M4 voteN N4 := ⟨_, rfl⟩
    have hNAb : NA ≤ 3 := by have := cntN_le M4 voteN N4; omega
    rw [← hNA] at hla
    have HBa := Lib.hid (HB9.out.trans (hsa.below (fun k e => HL9.out.disk.owns k e) HL9.out.hB))
    have HRE2 := Lib.hid (replace_any (w1.heap.size + 1) w1.heap.size NA oa _ shotN b bbs.length bc bbs wa hla.disk rfl (HBR.out.1.below (HB1.out.trans (HBa.out.mono HB1.out.size))) HBR.out.2.2.2 (by have := HAB.out; omega) (.inr (by omega)) (by decide) (by decide) (by omega) (fun l f hf => by have := (hla.tame l f hf).2; omega) hla.hB)
    have HLa := Lib.hid hla
    clear hda hsa hNA HRE1 hla htA
    go_wp2_with fail
    refine HRE2.out.mono ?_
    rintro e wb ⟨rfl, ob, hdb, hsb⟩
    obtain ⟨MA, hMA⟩ : ∃ MA, MA = upd M4 voteN (some ((M4.at voteN).chg ⟨true, abs, abs.length⟩)) := ⟨_, rfl⟩
    rw [← hMA] at hdb
    have htB : Tame (upd MA shotN (some ((MA.at shotN).chg ⟨true, bbs, bbs.length⟩))) := tame_upd (by rw [hMA]; exact HLa.out.tame) (by decide) fun f e => by
      cases e
      rw [hMA, upd_at_other _ _ (by decide), HMS.out]
      simp [Fil.chg, Fil.zero]
    rw [← hMA] at HLa
    have hlb := HLa.out.step hsb hdb htB (by have := cntN_le MA shotN NA; omega)
    obtain ⟨MB, hMB⟩ : ∃ MB, MB = upd MA shotN (some ((MA.at shotN).chg ⟨true, bbs, bbs.length⟩)) := ⟨_, rfl⟩
    rw [← hMB] at hlb
    have hV : (MB.at voteN).now = ⟨true, abs, abs.length⟩ := by rw [hMB, upd_at_other _ _ (by decide), hMA, upd_at, chg_now]
    have hS : (MB.at shotN).now = ⟨true, bbs, bbs.length⟩ := by rw [hMB, upd_at, chg_now]
    have HBb := Lib.hid (HBa.out.trans (hsb.below (fun k e => HLa.out.disk.owns k e) HLa.out.hB))
    have HGT := Lib.hid (get_there (w1.heap.size + 1) w1.heap.size _ ob MB wb hlb (by rw [hV]) (by rw [hV]; have := HAB.out; show abs.length ≤ _; omega))
    rw [hV] at HGT
    have HLb := Lib.hid hlb
    have HVS := Lib.hid hS
    clear hdb hsb hMB hMA htB hlb hV hS HRE2
    go_wp2_with fail
    refine HGT.out.mono ?_
    rintro e wc ⟨hbc, r, hr, rfl⟩
    obtain ⟨gn, gm, ge, hge⟩ := getV_form r
    rw [hge]
    have halc : Below wc.heap.size wc (wc.alloc (.cells #[.int .u64 (gn : Int), .int .u64 (gm : Int)] 24)) := (Below.refl _ _).alloc (Nat.le_refl _) _
    have hqc := heap_alloc_new wc (.cells #[.int .u64 (gn : Int), .int .u64 (gm : Int)] 24)
    obtain ⟨wd, hwd⟩ : ∃ wd, wd = wc.alloc (.cells #[.int .u64 (gn : Int), .int .u64 (gm : Int)] 24) := ⟨_, rfl⟩
    rw [← hwd] at halc hqc
    have hbbd := hbc.trans (halc.mono hbc.size)
    have HBd := Lib.hid (HBb.out.trans (hbbd.mono HLb.out.hB))
    have HLd := Lib.hid (HLb.out.below hbbd)
    have HQC := Lib.hid hqc
    have HRG := Lib.hid (refGet_any a abs.length ac abs wd rfl (HAR.out.1.below (HB1.out.trans (HBd.out.mono HB1.out.size))) (by have := HAB.out; omega) HAR.out.2.1 HAR.out.2.2.1)
    have HR := Lib.hid hr
    have HGE := Lib.hid hge
    have HWD := Lib.hid hwd
    clear hbc hr hge halc hqc hwd hbbd HGT
    go_wp2_with fail
    rw [← HWD.out]
    refine HRG.out.mono ?_
    rintro e we ⟨hbe, r2, hr2, rfl⟩
    obtain rfl := hr2.one HR.out
    rw [HGE.out]
    have hale : Below we.heap.size we (we.alloc (.cells #[.int .u64 (gn : Int), .int .u64 (gm : Int)] 24)) := (Below.refl _ _).alloc (Nat.le_refl _) _
    have hqe := heap_alloc_new we (.cells #[.int .u64 (gn : Int), .int .u64 (gm : Int)] 24)
    obtain ⟨wf, hwf⟩ : ∃ wf, wf = we.alloc (.cells #[.int .u64 (gn : Int), .int .u64 (gm : Int)] 24) := ⟨_, rfl⟩
    rw [← hwf] at hale hqe
    have hbdf := hbe.trans (hale.mono hbe.size)
    have HDF := Lib.hid hbdf
    have HBf := Lib.hid (HBd.out.trans (hbdf.mono HLd.out.hB))
    have HLf := Lib.hid (HLd.out.below hbdf)
    have HQE := Lib.hid hqe
    have HKT := Lib.hid (kept_there (w1.heap.size + 1) w1.heap.size _ ob MB wf HLf.out (by rw [HVS.out]) (by rw [HVS.out]; have := HAB.out; show bbs.length ≤ _; omega))
    rw [HVS.out] at HKT
    have HWF := Lib.hid hwf
    clear hbe hr2 hale hqe hwf hbdf HRG
    go_wp2_with fail
    rw [← HWF.out]
    refine HKT.out.mono ?_
    rintro e wg ⟨hbg, r3, hr3, hkv⟩
    obtain ⟨ki, kt, ke, I, hform⟩ := keptV_form hr3
    obtain ⟨ka, kc, rfl, hrd⟩ := hform _ _ _ hkv
    have halg : Below wg.heap.size wg (wg.alloc (.cells #[.int .u64 (ki : Int), .int .u64 (kt : Int), .slice ka I.length kc] 27)) := (Below.refl _ _).alloc (Nat.le_refl _) _
    have hqg := heap_alloc_new wg (.cells #[.int .u64 (ki : Int), .int .u64 (kt : Int), .slice ka I.length kc] 27)
    obtain ⟨wh, hwh⟩ : ∃ wh, wh = wg.alloc (.cells #[.int .u64 (ki : Int), .int .u64 (kt : Int), .slice ka I.length kc] 27) := ⟨_, rfl⟩
    rw [← hwh] at halg hqg
    have hbfh := hbg.trans (halg.mono hbg.size)
    have HFH := Lib.hid hbfh
    have HBh := Lib.hid (HBf.out.trans (hbfh.mono HLf.out.hB))
    have HQG := Lib.hid hqg
    have HRDK := Lib.hid (hrd.below halg)
    have HR3 := Lib.hid hr3
    have HFORM := Lib.hid hform
    have HRK := Lib.hid (refKept_any b bbs.length bc bbs wh rfl (HBR.out.1.below (HB1.out.trans (HBh.out.mono HB1.out.size))) (by have := HAB.out; omega) HBR.out.2.1 HBR.out.2.2.1)
    have HWH := Lib.hid hwh
    have hszh : w1.heap.size ≤ wh.heap.size := HBh.out.size
    clear hbg hr3 hkv hform hrd halg hqg hwh hbfh HKT
    go_wp2_with fail
    rw [← HWH.out]
    refine HRK.out.mono ?_
    rintro e wi ⟨hbi, r4, hr4, hkv⟩
    obtain rfl := hr4.one HR3.out
    obtain ⟨la, lc, rfl, hrd⟩ := HFORM.out _ _ _ hkv
    have hali : Below wi.heap.size wi (wi.alloc (.cells #[.int .u64 (ki : Int), .int .u64 (kt : Int), .slice la I.length lc] 27)) := (Below.refl _ _).alloc (Nat.le_refl _) _
    have hqi := heap_alloc_new wi (.cells #[.int .u64 (ki : Int), .int .u64 (kt : Int), .slice la I.length lc] 27)
    obtain ⟨wj, hwj⟩ : ∃ wj, wj = wi.alloc (.cells #[.int .u64 (ki : Int), .int .u64 (kt : Int), .slice la I.length lc] 27) := ⟨_, rfl⟩
    rw [← hwj] at hali hqi
    have hbhj := hbi.trans (hali.mono hbi.size)
    have HHJ := Lib.hid hbhj
    have HQI := Lib.hid hqi
    have HRDL := Lib.hid (hrd.below hali)
    have HWJ := Lib.hid hwj
    have HGN := Lib.hid (get_no (.pointer none) wj (.inl rfl))
    clear hbi hr4 hkv hrd hali hqi hwj hbhj HRK
    go_wp2_with fail
    rw [← HWJ.out]
    refine HGN.out.mono ?_
    rintro e wk ⟨hbk, rfl⟩
    have halk : Below wk.heap.size wk (wk.alloc zeroP) := (Below.refl _ _).alloc (Nat.le_refl _) _
    have hbjk := hbk.trans (halk.mono hbk.size)
    obtain ⟨wl_, hwl⟩ : ∃ wl_, wl_ = wk.alloc zeroP := ⟨_, rfl⟩
    rw [← hwl] at hbjk
    have HJK := Lib.hid hbjk
    have HKN0 := Lib.hid (kept_no (.pointer none) wl_ (.inl rfl))
    have HWL := Lib.hid hwl
    clear hbk halk hbjk hwl HGN
    go_wp2_with fail
    rw [show wk.alloc (.cells #[.int .u64 0, .int .u64 0] 24) = wl_ from HWL.out.symm]
    refine HKN0.out.mono ?_
    rintro e wm ⟨hbm, rfl⟩
    have halm : Below wm.heap.size wm (wm.alloc zeroS) := (Below.refl _ _).alloc (Nat.le_refl _) _
    have hblm := hbm.trans (halm.mono hbm.size)
    obtain ⟨wn, hwn⟩ : ∃ wn, wn = wm.alloc zeroS := ⟨_, rfl⟩
    rw [← hwn] at hblm
    have hjn := HJK.out.trans (hblm.mono HJK.out.size)
    have hhn := HHJ.out.trans (hjn.mono HHJ.out.size)
    have hfn := HFH.out.trans (hhn.mono HFH.out.size)
    have hdn := HDF.out.trans (hfn.mono HDF.out.size)
    have HBn := Lib.hid (HBh.out.trans (hhn.mono hszh))
    have hqc := (hdn.block _ (lt_of_block HQC.out)).trans HQC.out
    have hqe := (hfn.block _ (lt_of_block HQE.out)).trans HQE.out
    have hqg := (hhn.block _ (lt_of_block HQG.out)).trans HQG.out
    have hqi := (hjn.block _ (lt_of_block HQI.out)).trans HQI.out
    obtain ⟨x0, x1⟩ := two_at hqc
    obtain ⟨y0, y1⟩ := two_at hqe
    obtain ⟨g0, g1, g2⟩ := three_at hqg
    obtain ⟨l0, l1, l2⟩ := three_at hqi
    have HSM := Lib.hid (refSame_eq ki kt ka la kc lc I wn (HRDK.out.below hhn) (HRDL.out.below hjn))
    have HWN := Lib.hid hwn
    rw [hwn] at x0 x1 y0 y1 g0 g1 g2 l0 l1 l2
    have hszn : w1.heap.size ≤ wn.heap.size := HBn.out.size
    clear hbm halm hblm hwn hjn hhn hfn hdn hqc hqe hqg hqi HKN0
    clear u0 u1 u2
    go_wp2_with fail
    rw [show wm.alloc (.cells #[.int .u64 0, .int .u64 0, .slice none 0 0] 27) = wn from HWN.out.symm]
    refine HSM.out.mono ?_
    rintro e wo ⟨rfl, hbo⟩
    have HBo := Lib.hid (HBn.out.trans (hbo.mono hszn))
    obtain ⟨⟨p0, p1⟩, v0, v1, v2⟩ := HIN.out wo HBo.out
    have HPN := Lib.hid (voteput_no (.pointer none) t v wo (.inl rfl) HNM.out.1.1 HNM.out.1.2)
    clear hbo HSM
    go_wp2_with fail
    refine HPN.out.mono ?_
    rintro e wp ⟨rfl, hbp⟩
    have HBp := Lib.hid (HBo.out.trans (hbp.mono HBo.out.size))
    obtain ⟨⟨z0, z1⟩, n0, n1, n2⟩ := HIN.out wp HBp.out
    have HKO := Lib.hid (keep_no (.pointer none) i s sa simg.length sc wp (.inl rfl))
    clear hbp HPN p0 p1 v0 v1 v2
    go_wp2_with fail
    refine HKO.out.mono ?_
    rintro e wq ⟨rfl, hbq⟩
    have HBq := Lib.hid (HB1.out.trans ((HBp.out.trans (hbq.mono HBp.out.size)).mono HB1.out.size))
    clear hbq HKO
    go_wp2_with fail
    go_ret
    exact ⟨rfl, HBq.out⟩
  have d3 : ((simg.length : Int) != 262145) = true := by rw [bne_iff_ne]; omega
  go_wp2_with fail
  go_ret
  exact ⟨rfl, HB1.out⟩

end Go.Proofs.Ytaljfpkgancidaa
