/- vote.Kept, by its contract. -/
import Derived.Test.YtaljfpkgancidaaGJA
namespace Go.Proofs.Ytaljfpkgancidaa
open Go.RowKit Go.Maps Go.Sort Dsk

abbrev zeroS : Obj := .cells #[.int .u64 0, .int .u64 0, .slice none 0 0] 27
abbrev zeroSV : Value := .agg #[.int .u64 0, .int .u64 0, .slice none 0 0]

/-- what Kept tells -/
def KeptV (w w' : World) (e : Ending) : Option Vt.Shot → Prop
  | some s => ∃ v, e = .returned (.tuple #[.agg #[.int .u64 (s.i : Int), .int .u64 (s.t : Int), v], .int .i64 0]) ∧ Row w' w.heap.size s.img v
  | none => e = .returned (.tuple #[.agg #[.int .u64 0, .int .u64 0, .slice none 0 0], .int .i64 4])

theorem three_cells {W : World} {b : Nat} {T : TypeId} {x y z : Value} (h : W.heap[b]? = some (.cells #[x, y, z] T (0, 0))) (u v t : Value) : (((W.setCell ⟨b, 0, none⟩ u).setCell ⟨b, 1, none⟩ v).setCell ⟨b, 2, none⟩ t).heap[b]? = some (.cells #[u, v, t] T (0, 0)) := by
  have := cells_set (cells_set (cells_set h 0 u) 1 v) 2 t
  simpa using this
theorem three_at {W : World} {b : Nat} {T : TypeId} {x y z : Value} (h : W.heap[b]? = some (.cells #[x, y, z] T (0, 0))) : W.cell? ⟨b, 0, none⟩ = some x ∧ W.cell? ⟨b, 1, none⟩ = some y ∧ W.cell? ⟨b, 2, none⟩ = some z :=
  ⟨by rw [cell_of_row _ _ 0 _ _ _ h]; rfl, by rw [cell_of_row _ _ 1 _ _ _ h]; rfl, by rw [cell_of_row _ _ 2 _ _ _ h]; rfl⟩
theorem three_below {W : World} {B b : Nat} (hb : B ≤ b) (u v t : Value) {w : World} (h : Below B w W) : Below B w (((W.setCell ⟨b, 0, none⟩ u).setCell ⟨b, 1, none⟩ v).setCell ⟨b, 2, none⟩ t) :=
  ((h.setCell (p := ⟨b, 0, none⟩) hb u).setCell (p := ⟨b, 1, none⟩) hb v).setCell (p := ⟨b, 2, none⟩) hb t

set_option maxRecDepth 100000 in
set_option maxHeartbeats 1000000 in
theorem kept_none (g B N : Nat) (o : Tags) (M : Files) (w : World) (hl : Liv w B o g M N) (ht : (M.at shotN).now.there = false) :
    Calls Try.prog 16 #[.pointer (some ⟨g, 0, none⟩)] w fun e w' => Below w.heap.size w w' ∧ e = .returned (.tuple #[zeroSV, .int .i64 5]) := by
  have hb1 : Below w.heap.size w (w.alloc zeroS) := (Below.refl _ _).alloc (Nat.le_refl _) _
  have HRD := Lib.hid (voteread_none g B N o M shotN _ (hl.below hb1) (by decide) ht)
  have HB1 := Lib.hid hb1
  have hbk : (w.alloc zeroS).heap[w.heap.size]? = some zeroS := heap_alloc_new w _
  have HBK := Lib.hid hbk
  clear hl hb1 hbk
  go_enter Try.func16, Try.ntmps16
  go_wp2_with fail
  refine HRD.out.mono ?_
  rintro e w1 ⟨hb2, rfl⟩
  have hbk1 := (hb2.block w.heap.size (by simp)).trans HBK.out
  obtain ⟨c0, c1, c2⟩ := three_at hbk1
  have f0 : w1.frozen? ⟨w.heap.size, 0, none⟩ = false := frozen_row hbk1
  have f1 : w1.frozen? ⟨w.heap.size, 1, none⟩ = false := frozen_row hbk1
  have f2 : w1.frozen? ⟨w.heap.size, 2, none⟩ = false := frozen_row hbk1
  have HBK1 := Lib.hid hbk1
  have HB2 := Lib.hid (HB1.out.trans (hb2.mono HB1.out.size))
  clear hb2 hbk1
  go_wp2_with fail
  obtain ⟨d0, d1, d2⟩ := three_at (three_cells HBK1.out (.int .u64 0) (.int .u64 0) (.slice none 0 0))
  exact bodyPost_ret (v := .tuple #[zeroSV, .int .i64 5]) (by simp [results, Try.results16, go_sem, d0, d1, d2]) rfl ⟨three_below (Nat.le_refl _) _ _ _ HB2.out, rfl⟩

set_option maxRecDepth 100000 in
set_option maxHeartbeats 1000000 in
theorem kept_no (x : Value) (w : World) (hl : NoDisk w x) :
    Calls Try.prog 16 #[x] w fun e w' => Below w.heap.size w w' ∧ e = .returned (.tuple #[zeroSV, .int .i64 1]) := by
  have hb1 : Below w.heap.size w (w.alloc zeroS) := (Below.refl _ _).alloc (Nat.le_refl _) _
  have HRD := Lib.hid (voteread_no x (.string ⟨shotN.toArray⟩) _ (hl.below hb1))
  have HB1 := Lib.hid hb1
  have hbk : (w.alloc zeroS).heap[w.heap.size]? = some zeroS := heap_alloc_new w _
  have HBK := Lib.hid hbk
  clear hl hb1 hbk
  go_enter Try.func16, Try.ntmps16
  go_wp2_with fail
  refine HRD.out.mono ?_
  rintro e w1 ⟨hb2, rfl⟩
  have hbk1 := (hb2.block w.heap.size (by simp)).trans HBK.out
  obtain ⟨c0, c1, c2⟩ := three_at hbk1
  have f0 : w1.frozen? ⟨w.heap.size, 0, none⟩ = false := frozen_row hbk1
  have f1 : w1.frozen? ⟨w.heap.size, 1, none⟩ = false := frozen_row hbk1
  have f2 : w1.frozen? ⟨w.heap.size, 2, none⟩ = false := frozen_row hbk1
  have HBK1 := Lib.hid hbk1
  have HB2 := Lib.hid (HB1.out.trans (hb2.mono HB1.out.size))
  clear hb2 hbk1
  go_wp2_with fail
  obtain ⟨d0, d1, d2⟩ := three_at (three_cells HBK1.out (.int .u64 0) (.int .u64 0) (.slice none 0 0))
  exact bodyPost_ret (v := .tuple #[zeroSV, .int .i64 1]) (by simp [results, Try.results16, go_sem, d0, d1, d2]) rfl ⟨three_below (Nat.le_refl _) _ _ _ HB2.out, rfl⟩

set_option maxRecDepth 100000 in
set_option maxHeartbeats 4000000 in
theorem kept_there (g B N : Nat) (o : Tags) (M : Files) (w : World) (hl : Liv w B o g M N) (ht : (M.at shotN).now.there = true) (hlen : (M.at shotN).now.bs.length ≤ 500000) :
    Calls Try.prog 16 #[.pointer (some ⟨g, 0, none⟩)] w fun e w' => Below w.heap.size w w' ∧ ∃ r, Vt.KeptIs (M.at shotN).now.bs r ∧ KeptV w w' e r := by
  have hb1 : Below w.heap.size w (w.alloc zeroS) := (Below.refl _ _).alloc (Nat.le_refl _) _
  have HRD := Lib.hid (voteread_any g B N o M shotN _ (hl.below hb1) (by decide) ht (by omega))
  have HRNG := Lib.hid (Fil.now_ok (hl.ok shotN)).2.2
  obtain ⟨bs, hbs⟩ : ∃ bs, bs = (M.at shotN).now.bs := ⟨_, rfl⟩
  rw [← hbs] at HRD HRNG hlen ⊢
  have HB1 := Lib.hid hb1
  have hbk : (w.alloc zeroS).heap[w.heap.size]? = some zeroS := heap_alloc_new w _
  have HBK := Lib.hid hbk
  clear hl hb1 hbk hbs ht
  go_enter Try.func16, Try.ntmps16
  go_wp2_with fail
  refine HRD.out.mono ?_
  rintro e w1 ⟨hb2, ls, k, hsc, hk⟩
  have hbk1 := (hb2.block w.heap.size (by simp)).trans HBK.out
  have HB2 := Lib.hid (HB1.out.trans (hb2.mono HB1.out.size))
  have HSC := Lib.hid hsc
  clear HRD hsc
  rcases hk with ⟨hk, rfl⟩ | ⟨hk, w0, R, rfl, hnx, hsz0, hbw0⟩
  · clear hb2
    obtain ⟨c0, c1, c2⟩ := three_at hbk1
    have f0 : w1.frozen? ⟨w.heap.size, 0, none⟩ = false := frozen_row hbk1
    have f1 : w1.frozen? ⟨w.heap.size, 1, none⟩ = false := frozen_row hbk1
    have f2 : w1.frozen? ⟨w.heap.size, 2, none⟩ = false := frozen_row hbk1
    have HE2 := Lib.hid hbk1
    clear hbk1
    go_wp2_with fail
    obtain ⟨d0, d1, d2⟩ := three_at (three_cells HE2.out (.int .u64 0) (.int .u64 0) (.slice none 0 0))
    refine bodyPost_ret (v := .tuple #[zeroSV, .int .i64 4]) (by simp [results, Try.results16, go_sem, d0, d1, d2]) rfl ⟨three_below (Nat.le_refl _) _ _ _ HB2.out, none, ?_, rfl⟩
    exact Vt.kept_not HSC.out (fun _ _ h => absurd h hk)
  · subst hk
    have hR1 := hnx.up
    obtain ⟨_, _, hRb, _⟩ := hnx.box
    have hR2 := hRb.lt
    simp only [World.size_alloc] at hsz0
    have hal : Below w1.heap.size w1 ((w1.alloc zeroS).alloc (.cells #[.int .u64 0] 22)) := ((Below.refl _ _).alloc (Nat.le_refl _) _).alloc (by simp) _
    have hnx1 := hnx.keep hal
    have hb6 : ((w1.alloc zeroS).alloc (.cells #[.int .u64 0] 22)).heap[w1.heap.size]? = some zeroS := (Below.heap_alloc _ _ _ (by simp)).trans (heap_alloc_new w1 _)
    have hb7 : ((w1.alloc zeroS).alloc (.cells #[.int .u64 0] 22)).heap[w1.heap.size + 1]? = some (.cells #[.int .u64 0] 22 (0, 0)) := by
      have := heap_alloc_new (w1.alloc zeroS) (.cells #[.int .u64 0] 22)
      rwa [World.size_alloc] at this
    have hbk2 := (hal.block w.heap.size (lt_of_block hbk1)).trans hbk1
    have HB3 := Lib.hid (HB2.out.trans (hal.mono HB2.out.size))
    have HNX := Lib.hid hnx1
    have HB6 := Lib.hid hb6
    have HB7 := Lib.hid hb7
    have HBK2 := Lib.hid hbk2
    have HBS := Lib.hid (Vt.Scans.full HRNG.out HSC.out rfl)
    clear hb2 hbk1 hnx hRb hal hnx1 hb6 hb7 hbk2 hbw0
    have hll : ls.length ≤ 100000 := by
      have h6 := (HSC.out.le HRNG.out).2
      omega
    have HN1 := Lib.hid (next_any w0 _ R ls HNX.out (by omega))
    go_wp2_with fail
    refine HN1.out.mono ?_
    rintro e w2 ⟨A, C, rfl, hra, hnx2, ho2⟩
    obtain ⟨r, hr⟩ : ∃ r, r = ls.headD [] := ⟨_, rfl⟩
    rw [← hr] at hra ⊢
    have HR := Lib.hid hr
    clear hr
    obtain ⟨some1, hsome1⟩ : ∃ x, x = !ls.isEmpty := ⟨_, rfl⟩
    rw [← hsome1]
    clear hsome1
    have hb6 := (ho2.block w1.heap.size (by omega)).trans HB6.out
    have hb7 := (ho2.block (w1.heap.size + 1) (by omega)).trans HB7.out
    have hbk3 := (ho2.block w.heap.size (by omega)).trans HBK2.out
    have HB4 := Lib.hid (HB3.out.trans (ho2.below (by omega)))
    have hs2 : w1.heap.size + 2 ≤ w2.heap.size := by have := ho2.size; simp only [World.size_alloc] at this; omega
    have hal : Below w2.heap.size w2 (w2.alloc (.cells #[.pointer (some ⟨w1.heap.size, 0, none⟩), .pointer (some ⟨w1.heap.size, 1, none⟩), .pointer (some ⟨w1.heap.size + 1, 0, none⟩)] 85)) := (Below.refl _ _).alloc (Nat.le_refl _) _
    have hgb : (w2.alloc (.cells #[.pointer (some ⟨w1.heap.size, 0, none⟩), .pointer (some ⟨w1.heap.size, 1, none⟩), .pointer (some ⟨w1.heap.size + 1, 0, none⟩)] 85)).heap[w2.heap.size]? = some (.cells #[.pointer (some ⟨w1.heap.size, 0, none⟩), .pointer (some ⟨w1.heap.size, 1, none⟩), .pointer (some ⟨w1.heap.size + 1, 0, none⟩)] 85 (0, 0)) := heap_alloc_new _ _
    have hb8 := (hal.block _ (lt_of_block hb6)).trans hb6
    have hb9 := (hal.block _ (lt_of_block hb7)).trans hb7
    have hbel2 := hnx2.bel
    have HBE := Lib.hid (bears_any w0 A C r w2.heap.size 3 [(w1.heap.size, 0), (w1.heap.size, 1), (w1.heap.size + 1, 0)] _ hra (hbel2.trans (hal.mono hbel2.size)) (by
        cases ls with
        | nil => rw [HR.out]; simp
        | cons r' ls' =>
          have h6 := (Vt.Scans.is HSC.out HRNG.out).2.1 r' (by simp)
          rw [HR.out]
          simp
          omega) (by simp) (fun i p hp => by
        rw [cell_of_row _ _ i _ _ _ hgb]
        match i, hp with
        | 0, hp => simp at hp; subst hp; rfl
        | 1, hp => simp at hp; subst hp; rfl
        | 2, hp => simp at hp; subst hp; rfl
        | i + 3, hp => simp at hp) (fun p hp => by
        simp only [List.mem_cons, List.not_mem_nil, or_false] at hp
        rcases hp with rfl | rfl | rfl
        · exact ⟨by show _ ≤ w1.heap.size; omega, by show w1.heap.size ≠ _; omega, _, _, hb8, by simp⟩
        · exact ⟨by show _ ≤ w1.heap.size; omega, by show w1.heap.size ≠ _; omega, _, _, hb8, by simp⟩
        · exact ⟨by show _ ≤ w1.heap.size + 1; omega, by show w1.heap.size + 1 ≠ _; omega, _, _, hb9, by simp⟩))
    have HB8 := Lib.hid hb8
    have HB9 := Lib.hid hb9
    have HNX2 := Lib.hid (hnx2.keep hal)
    have HBK5 := Lib.hid ((hal.block _ (lt_of_block hbk3)).trans hbk3)
    have HBX := Lib.hid (HB4.out.trans (hal.mono HB4.out.size))
    have hs2a : w1.heap.size + 2 ≤ (w2.alloc (.cells #[.pointer (some ⟨w1.heap.size, 0, none⟩), .pointer (some ⟨w1.heap.size, 1, none⟩), .pointer (some ⟨w1.heap.size + 1, 0, none⟩)] 85)).heap.size := by simp; omega
    clear hal hgb hb8 hb9 hb6 hb7 hbk3 hra hnx2 ho2 hbel2 HN1
    go_wp2_with fail
    refine HBE.out.mono ?_
    have hps : ∀ x ∈ [(w1.heap.size, 0), (w1.heap.size, 1), (w1.heap.size + 1, 0)], w1.heap.size ≤ x.1 := fun x hx => by
      simp only [List.mem_cons, List.not_mem_nil, or_false] at hx
      rcases hx with h | h | h <;> rw [h] <;> show _ ≤ _ <;> simp
    have HPS := Lib.hid hps
    clear hps
    rintro e w4 (⟨ns, hn2, hrn, hsm, rfl, hp4⟩ | ⟨hno, rfl, l4, hl4, hp4⟩)
    · obtain ⟨i, t, long, rfl⟩ : ∃ i t long, ns = [i, t, long] := by
        match ns, hn2 with
        | [i, t, long], _ => exact ⟨i, t, long, rfl⟩
      have hge : ∀ x ∈ wl [(w1.heap.size, 0), (w1.heap.size, 1), (w1.heap.size + 1, 0)] [i, t, long], w1.heap.size ≤ x.1.1 := fun x hx => HPS.out _ (wl_mem _ _ _ hx)
      have e6 := hp4.cells HB8.out
      rw [show (wl [(w1.heap.size, 0), (w1.heap.size, 1), (w1.heap.size + 1, 0)] [i, t, long]).foldl (put1 w1.heap.size) #[.int .u64 0, .int .u64 0, .slice none 0 0] = #[.int .u64 (i : Int), .int .u64 (t : Int), .slice none 0 0] by simp [wl, put1]] at e6
      have e7 := hp4.cells HB9.out
      rw [show (wl [(w1.heap.size, 0), (w1.heap.size, 1), (w1.heap.size + 1, 0)] [i, t, long]).foldl (put1 (w1.heap.size + 1)) #[.int .u64 0] = #[.int .u64 (long : Int)] by simp [wl, put1]] at e7
      have e2 := (hp4.other (lt_of_block HBK5.out) (fun x hx => by have := hge x hx; omega)).trans HBK5.out
      have g7 : w4.cell? ⟨w1.heap.size + 1, 0, none⟩ = some (.int .u64 (long : Int)) := by rw [cell_of_row _ _ 0 _ _ _ e7]; rfl
      have hnR := hp4.other (lt_of_block (show _ from HNX2.out.box.choose_spec.choose_spec.1)) (fun x hx => by have := hge x hx; omega)
      have hbw := hp4.under (B := w0.heap.size) HNX2.out.bel.size (fun x hx => by have := hge x hx; omega)
      have hnx4 := HNX2.out.other hbw hnR
      have hsz4 := hp4.size
      have HB10 := Lib.hid (HBX.out.trans (hp4.under (B := w.heap.size) (Nat.le_trans (by omega) HBX.out.size) (fun x hx => by have := hge x hx; omega)))
      have HRN := Lib.hid hrn
      have HSM := Lib.hid hsm
      have hls : ls = r :: ls.tail := by
        cases ls with
        | nil =>
          have h1 := HR.out
          have h2 := (Vt.recOf_len [i, t, long]).1
          rw [← HRN.out, h1] at h2
          simp at h2
        | cons r' ls' =>
          have h1 := HR.out
          simp at h1
          rw [h1]
          rfl
      have HLS := Lib.hid hls
      have hs4 : w1.heap.size + 2 ≤ w4.heap.size := by omega
      clear hp4 hge hnR hbw hrn hsm hls hn2 hsz4 hs2a
      have hkey : ∀ s : Vt.Shot, s.ok → ls = Vt.recOf [s.i, s.t, s.img.length] :: Vt.parts s.img → long = s.img.length ∧ ls.tail = Vt.parts s.img := fun s hok he => by
        have h1 := HR.out
        rw [he, HRN.out] at h1
        have h2 := Vt.recOf_inj HSM.out (Vt.small3 (u := s.img.length) hok.hi hok.ht (by have := hok.hl; omega)) rfl h1
        simp only [List.cons.injEq, and_true] at h2
        exact ⟨h2.2.2, by rw [he]; rfl⟩
      have HKEY := Lib.hid hkey
      clear hkey
      by_cases hlong : long ≤ 262144
      · have hgt : decide ((262144 : Int) < (long : Int)) = false := by simp; omega
        have HJN := Lib.hid (votejoin_any w0 w4 R long ls.tail hnx4 hlong (by rw [List.length_tail]; omega))
        have HE6 := Lib.hid e6
        have HE2 := Lib.hid e2
        clear e6 e7 e2 hnx4
        go_wp2_with fail
        refine HJN.out.mono ?_
        rintro e w5 ⟨hlr, (⟨img, v, hil, hpt, himg, rfl, hrow⟩ | ⟨hnot, v, rfl⟩)⟩
        · have hb6 := (hlr.block _ (lt_of_block HE6.out) (by omega)).trans HE6.out
          have hb2 := (hlr.block _ (lt_of_block HE2.out) (by omega)).trans HE2.out
          obtain ⟨g0, g1, g2⟩ := three_at hb6
          have fg : w5.frozen? ⟨w1.heap.size, 2, none⟩ = false := frozen_row hb6
          have hb6b := cells_set hb6 2 v
          simp only [List.setIfInBounds_toArray, List.set_cons_succ, List.set_cons_zero] at hb6b
          have hb2b := (Below.heap_setCell w5 ⟨w1.heap.size, 2, none⟩ v w.heap.size (by show w.heap.size ≠ w1.heap.size; omega)).trans hb2
          obtain ⟨k0, k1, k2⟩ := three_at hb6b
          obtain ⟨c0, c1, c2⟩ := three_at hb2b
          have f0 : (w5.setCell ⟨w1.heap.size, 2, none⟩ v).frozen? ⟨w.heap.size, 0, none⟩ = false := frozen_row hb2b
          have f1 : (w5.setCell ⟨w1.heap.size, 2, none⟩ v).frozen? ⟨w.heap.size, 1, none⟩ = false := frozen_row hb2b
          have f2 : (w5.setCell ⟨w1.heap.size, 2, none⟩ v).frozen? ⟨w.heap.size, 2, none⟩ = false := frozen_row hb2b
          have HB11 := Lib.hid ((HB10.out.trans (hlr.below (by omega) (by omega))).setCell (p := ⟨w1.heap.size, 2, none⟩) (by show _ ≤ w1.heap.size; omega) v)
          have HROW := Lib.hid hrow
          have HB2B := Lib.hid hb2b
          have HPT := Lib.hid hpt
          have HIMG := Lib.hid himg
          have HIL := Lib.hid hil
          obtain ⟨va, vc, rfl⟩ := hrow.shape
          clear hlr hrow hb6 hb2 hb6b hb2b hpt himg HJN hil
          go_wp2_with fail
          obtain ⟨d0, d1, d2⟩ := three_at (three_cells HB2B.out (.int .u64 (i : Int)) (.int .u64 (t : Int)) (.slice va img.length vc))
          refine bodyPost_ret (v := .tuple #[.agg #[.int .u64 (i : Int), .int .u64 (t : Int), .slice va img.length vc], .int .i64 0]) (by simp [results, Try.results16, go_sem, d0, d1, d2]) rfl ⟨three_below (Nat.le_refl _) _ _ _ HB11.out, some ⟨i, t, img⟩, ?_, .slice va img.length vc, rfl, ?_⟩
          · refine Vt.kept_rows (l := ls) HBS.out ?_ (HSM.out i (by simp)) (HSM.out t (by simp)) (by have := HIL.out; omega) HIMG.out
            rw [HIL.out, ← HRN.out, ← HPT.out]
            exact HLS.out
          · refine (HROW.out.keep fun j hj => ?_).less (Nat.le_trans (by omega) hs4)
            have hjw := (HROW.out.own j hj).1
            rw [Below.heap_setCell _ _ _ _ (show j ≠ w.heap.size by omega), Below.heap_setCell _ _ _ _ (show j ≠ w.heap.size by omega), Below.heap_setCell _ _ _ _ (show j ≠ w.heap.size by omega), Below.heap_setCell _ _ _ _ (show j ≠ w1.heap.size by omega)]
        · have hb2 := (hlr.block _ (lt_of_block HE2.out) (by omega)).trans HE2.out
          have HB11 := Lib.hid (HB10.out.trans (hlr.below (by omega) (by omega)))
          have HNOT := Lib.hid hnot
          clear hlr hnot HJN
          obtain ⟨c0, c1, c2⟩ := three_at hb2
          have f0 : w5.frozen? ⟨w.heap.size, 0, none⟩ = false := frozen_row hb2
          have f1 : w5.frozen? ⟨w.heap.size, 1, none⟩ = false := frozen_row hb2
          have f2 : w5.frozen? ⟨w.heap.size, 2, none⟩ = false := frozen_row hb2
          have HE2 := Lib.hid hb2
          clear hb2
          go_wp2_with fail
          obtain ⟨d0, d1, d2⟩ := three_at (three_cells HE2.out (.int .u64 0) (.int .u64 0) (.slice none 0 0))
          refine bodyPost_ret (v := .tuple #[zeroSV, .int .i64 4]) (by simp [results, Try.results16, go_sem, d0, d1, d2]) rfl ⟨three_below (Nat.le_refl _) _ _ _ HB11.out, none, ?_, rfl⟩
          refine Vt.kept_not HSC.out fun s hok _ he => ?_
          obtain ⟨h1, h2⟩ := HKEY.out s hok he
          exact HNOT.out s.img h1.symm h2
      · have hgt : decide ((262144 : Int) < (long : Int)) = true := by simp; omega
        clear e6 e7 hnx4
        obtain ⟨c0, c1, c2⟩ := three_at e2
        have f0 : w4.frozen? ⟨w.heap.size, 0, none⟩ = false := frozen_row e2
        have f1 : w4.frozen? ⟨w.heap.size, 1, none⟩ = false := frozen_row e2
        have f2 : w4.frozen? ⟨w.heap.size, 2, none⟩ = false := frozen_row e2
        have HE2 := Lib.hid e2
        clear e2
        go_wp2_with fail
        obtain ⟨d0, d1, d2⟩ := three_at (three_cells HE2.out (.int .u64 0) (.int .u64 0) (.slice none 0 0))
        refine bodyPost_ret (v := .tuple #[zeroSV, .int .i64 4]) (by simp [results, Try.results16, go_sem, d0, d1, d2]) rfl ⟨three_below (Nat.le_refl _) _ _ _ HB10.out, none, ?_, rfl⟩
        refine Vt.kept_not HSC.out fun s hok _ he => ?_
        obtain ⟨h1, h2⟩ := HKEY.out s hok he
        exact hlong (by rw [h1]; exact hok.hl)
    · have hge : ∀ x ∈ l4, w1.heap.size ≤ x.1.1 := fun x hx => HPS.out _ (hl4 x hx)
      have e2 := (hp4.other (lt_of_block HBK5.out) (fun x hx => by have := hge x hx; omega)).trans HBK5.out
      have HB10 := Lib.hid (HBX.out.trans (hp4.under (B := w.heap.size) (Nat.le_trans (by omega) HBX.out.size) (fun x hx => by have := hge x hx; omega)))
      have HNO := Lib.hid hno
      clear hp4 hge hl4 hno
      obtain ⟨c0, c1, c2⟩ := three_at e2
      have f0 : w4.frozen? ⟨w.heap.size, 0, none⟩ = false := frozen_row e2
      have f1 : w4.frozen? ⟨w.heap.size, 1, none⟩ = false := frozen_row e2
      have f2 : w4.frozen? ⟨w.heap.size, 2, none⟩ = false := frozen_row e2
      have HE2 := Lib.hid e2
      clear e2
      go_wp2_with fail
      obtain ⟨d0, d1, d2⟩ := three_at (three_cells HE2.out (.int .u64 0) (.int .u64 0) (.slice none 0 0))
      refine bodyPost_ret (v := .tuple #[zeroSV, .int .i64 4]) (by simp [results, Try.results16, go_sem, d0, d1, d2]) rfl ⟨three_below (Nat.le_refl _) _ _ _ HB10.out, none, ?_, rfl⟩
      refine Vt.kept_not HSC.out fun s hok _ hls => HNO.out [s.i, s.t, s.img.length] rfl (Vt.small3 hok.hi hok.ht (by have := hok.hl; omega)) ?_
      rw [HR.out, hls]
      rfl

end Go.Proofs.Ytaljfpkgancidaa
