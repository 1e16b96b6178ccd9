/- slices.Grow of nothing and slices.Concat at []int64, by their contracts. -/
import Derived.Test.YtkhajpefnkialaaNumL
namespace Go.Proofs.Ytkhajpefnkialaa.Job
open Go.RowKit

set_option maxRecDepth 100000 in
theorem grow_none (w : World) : Calls Try.prog 11 #[.slice none 0 0, .int .i64 0] w fun e w' => e = .returned (.slice none 0 0) ∧ w' = w := by
  go_enter Try.func11, Try.ntmps11
  go_wp2
  go_ret
  exact ⟨rfl, rfl⟩

set_option maxRecDepth 100000 in
set_option maxHeartbeats 1000000 in
theorem grow_some (n : Nat) (h0 : 0 < n) (hn : n ≤ 1000000000) (w : World) :
    Calls Try.prog 11 #[.slice none 0 0, .int .i64 (n : Int)] w fun e w' => ∃ v, e = .returned v ∧ w'.ownsRow w.heap.size 2 1 v 0 [] ∧ Below w.heap.size w w' := by
  obtain ⟨i0, hi, hz0, hz1, hz2⟩ := info_parts infoI64
  have hrun := Lib.run_append_nil_zeros (P := Try.prog) w 22 3 22 2 i0 (.int .i64 0) .i64 .i64 (by kernel_rfl) (by kernel_rfl) hi hz0 n h0 (by omega) (by omega) (by rw [hz2]; omega)
  obtain ⟨cap, hcap⟩ : ∃ c, c = grownCap w n 0 2 := ⟨_, rfl⟩
  rw [← hcap] at hrun
  have d1 : decide ((n : Int) < 0) = false := by simp
  have d2 : decide ((0 : Int) < (n : Int)) = true := by simp; omega
  have HRUN := Lib.hid hrun
  have HCAP := Lib.hid hcap
  clear hrun hcap hi hz0 hz1 hz2
  go_enter Try.func11, Try.ntmps11
  go_wp2_with (at_builtin; refine Lib.wpList_append_run w rfl _ _ _ _ rfl _ _ rfl rfl _ _ HRUN.out ?_)
  have hcl : n ≤ cap := by rw [HCAP.out]; exact grownCap_ge ..
  have hm : cap ≤ maxLen := by rw [HCAP.out]; exact grownCap_le_maxLen _ _ _ _ (by unfold maxLen; omega)
  go_wp2
  go_ret
  exact ⟨_, rfl, World.ownsRow_made _ _ _ (Nat.le_refl _) hm (by rw [Array.size_append, size_zeroCells, size_zeroCells]; simp; omega), (Below.refl _ _).drew.alloc (Nat.le_refl _) _⟩

theorem grow_any (n : Nat) (hn : n ≤ 1000000000) (w : World) :
    Calls Try.prog 11 #[.slice none 0 0, .int .i64 (n : Int)] w fun e w' => ∃ v, e = .returned v ∧ w'.ownsRow w.heap.size 2 1 v 0 [] ∧ Below w.heap.size w w' := by
  by_cases h0 : n = 0
  · subst h0
    refine (grow_none w).mono ?_
    rintro e w' ⟨rfl, rfl⟩
    exact ⟨_, rfl, World.ownsRow_nil _ _ _ _, Below.refl _ _⟩
  · exact grow_some n (by omega) hn w

/-- a row of numbers, where it lies -/
structure Sl where
  a : Option Addr
  xs : List Int
  c : Nat
def Sl.val (s : Sl) : Value := .slice s.a s.xs.length s.c
structure SlF (w : World) (s : Sl) : Prop where
  read : Vals w s.a (s.xs.map iv)
  none : s.a = none → s.xs.length = 0 ∧ s.c = 0
theorem SlF.below {w w' : World} {s : Sl} (h : SlF w s) (hb : Below w.heap.size w w') : SlF w' s := ⟨h.read.below hb, h.none⟩
/-- all their numbers, one row behind the other -/
def flat (R : List Sl) : List Int := (R.map Sl.xs).flatten
def total (R : List Sl) : Nat := (R.map fun s => s.xs.length).sum
theorem flat_len (R : List Sl) : (flat R).length = total R := by unfold flat total; simp [List.length_flatten, List.map_map, Function.comp_def]
theorem flat_snoc (R : List Sl) (s : Sl) : flat (R ++ [s]) = flat R ++ s.xs := by simp [flat]
theorem total_snoc (R : List Sl) (s : Sl) : total (R ++ [s]) = total R + s.xs.length := by simp [total]
theorem total_take (R : List Sl) (i : Nat) : total (R.take i) ≤ total R := by
  have h : total (R.take i) + total (R.drop i) = total R := by
    rw [← flat_len, ← flat_len, ← flat_len, ← List.length_append]
    congr 1
    unfold flat
    rw [← List.flatten_append, ← List.map_append, List.take_append_drop]
  omega

set_option maxRecDepth 100000 in
set_option maxHeartbeats 2000000 in
theorem concat_any {w : World} {a : Option Addr} {c : Nat} {R : List Sl} (hR : Vals w a (R.map Sl.val)) (hF : ∀ s ∈ R, SlF w s) (hn : R.length ≤ 100) (ht : total R ≤ 1000000) :
    Calls Try.prog 9 #[.slice a R.length c] w fun e w' => ∃ v, e = .returned v ∧ RowI w' w.heap.size (flat R) v ∧ Below w.heap.size w w' := by
  obtain ⟨L, hL⟩ : ∃ L, L = R.length := ⟨_, rfl⟩
  obtain ⟨T, hT⟩ : ∃ T, T = total R := ⟨_, rfl⟩
  have HR := Lib.hid hR
  have HF := Lib.hid hF
  have HN := Lib.hid (show L ≤ 100 by omega)
  have HT := Lib.hid (show T ≤ 1000000 by omega)
  rw [← hL]
  have HL := Lib.hid hL
  have HTE := Lib.hid hT
  clear hR hF hn ht hL hT
  go_enter Try.func9, Try.ntmps9
  go_wp2_with fail
  go_loopw [3, 11] (fun v3 v11 wr => Drew w wr ∧ ∃ (i z : Nat), v3 = .int .i64 (z : Int) ∧ v11 = .int .i64 (i : Int) ∧ i ≤ L ∧ Hid (z = total (R.take i))) (fun _ v11 _ => L - (intOf v11).toNat)
  case atStart => exact ⟨Drew.refl _, 0, 0, rfl, rfl, Nat.zero_le _, Lib.hid rfl⟩
  case round =>
    obtain ⟨hd, i, z, rfl, rfl, hi, HZ⟩ := hrel
    by_cases hlt : i < L
    · have hlR : i < R.length := by have := HL.out; omega
      obtain ⟨g, q, h1, h2⟩ := HR.out
      have ea := h1 (by intro e; have := congrArg List.length e; rw [List.length_map, List.length_nil] at this; omega)
      cases ea
      obtain ⟨hg, hc⟩ := h2 i (by simpa using hlR)
      rw [List.getElem_map] at hc
      have hc2 := (hd.bel.cell (p := ⟨g, q + i, none⟩) hg).trans hc
      have hst : total (R.take (i + 1)) = total (R.take i) + R[i].xs.length := by rw [List.take_succ_eq_append_getElem hlR, total_snoc]
      have hz2 : z + R[i].xs.length ≤ 1000000 := by have := HZ.out; have := total_take R (i + 1); have := HT.out; have := HTE.out; omega
      obtain ⟨s, hs⟩ : ∃ s, R[i] = s := ⟨_, rfl⟩
      rw [hs] at hc2 hst hz2
      unfold Sl.val at hc2
      obtain ⟨y, hy⟩ : ∃ y, y = z + s.xs.length := ⟨_, rfl⟩
      have hy2 : (z : Int) + (s.xs.length : Int) = (y : Int) := by omega
      have hym : (y : Int) ≤ 1000000 := by omega
      have d1 : decide ((i : Int) < (L : Int)) = true := by simp; omega
      have d2 : decide ((y : Int) < 0) = false := by simp
      have hb0 : (0 : Int) ≤ i := by omega
      have hb1 : (i : Int) < 100 := by have := HN.out; omega
      have HST := Lib.hid hst
      have HY := Lib.hid hy
      have HD := Lib.hid hd
      have HI := Lib.hid hi
      clear hst hy hd hs h1 h2 hc hi hz2 hg
      go_wp2_with fail
      go_roundw
      case rel => exact ⟨HD.out, i + 1, y, rfl, by go_num, by omega, Lib.hid (by rw [HST.out, HY.out, HZ.out])⟩
      case measure => simp [intOf]; omega
    · have d1 : decide ((i : Int) < (L : Int)) = false := by simp; omega
      have hzT : z = T := by rw [HZ.out, HTE.out, List.take_of_length_le (by have := HL.out; omega)]
      have HD := Lib.hid hd
      clear hd hi
      subst hzT
      go_wp2_with fail
      refine (grow_any z (by have := HT.out; omega) wr).mono ?_
      rintro e w1 ⟨v, rfl, hown, hb1⟩
      obtain ⟨m, hm⟩ := HD.out
      have hsz : wr.heap.size = w.heap.size := by rw [hm]; rfl
      rw [hsz] at hown
      have HB1 := Lib.hid (HD.out.bel.trans (hb1.mono HD.out.bel.size))
      have HOWN := Lib.hid hown
      clear hown hb1 hm hsz
      go_wp2_with fail
      go_loopw [6, 27] (fun v6 v27 wr => ∃ (i : Nat), v27 = .int .i64 (i : Int) ∧ i ≤ L ∧ RowI wr w.heap.size (flat (R.take i)) v6 ∧ Below w.heap.size w wr) (fun _ v27 _ => L - (intOf v27).toNat)
      case atStart => exact ⟨0, rfl, Nat.zero_le _, HOWN.out, HB1.out⟩
      case round =>
        obtain ⟨i, rfl, hi, hrow, hbel⟩ := hrel
        by_cases hlt : i < L
        · have hlR : i < R.length := by have := HL.out; omega
          obtain ⟨g, q, h1, h2⟩ := HR.out
          have ea := h1 (by intro e; have := congrArg List.length e; rw [List.length_map, List.length_nil] at this; omega)
          cases ea
          obtain ⟨hg, hc⟩ := h2 i (by simpa using hlR)
          rw [List.getElem_map] at hc
          have hc2 := (hbel.cell (p := ⟨g, q + i, none⟩) hg).trans hc
          have hst : flat (R.take (i + 1)) = flat (R.take i) ++ R[i].xs := by rw [List.take_succ_eq_append_getElem hlR, flat_snoc]
          have hsf := HF.out R[i] (List.getElem_mem hlR)
          have hln : (flat (R.take i)).length + R[i].xs.length ≤ 1000000 := by rw [← List.length_append, ← hst, flat_len]; have := total_take R (i + 1); have := HT.out; have := HTE.out; omega
          obtain ⟨s, hs⟩ : ∃ s, R[i] = s := ⟨_, rfl⟩
          rw [hs] at hc2 hst hsf hln
          obtain ⟨v', w', hrun, hown', hg', hlies⟩ := run_app (P := Try.prog) (t := 22) (by kernel_rfl) infoI64 rfl (by decide) hrow hbel.size (hsf.below hbel).read (by rw [List.length_map]) hsf.none (one_i s.xs) (by omega)
          have hb' : Below w.heap.size w w' := hbel.grown hg' hbel.size (fun k e => (World.ownsRow.lt hrow k e).1)
          obtain ⟨va, vc, rfl, -⟩ := own_shape hrow
          obtain ⟨va', vc', rfl, -⟩ := own_shape hown'
          unfold Sl.val at hc2
          have d1 : decide ((i : Int) < (L : Int)) = true := by simp; omega
          have hb0 : (0 : Int) ≤ i := by omega
          have hb1 : (i : Int) < 100 := by have := HN.out; omega
          have HRUN := Lib.hid hrun
          have HOWN2 := Lib.hid hown'
          have HB2 := Lib.hid hb'
          have HST := Lib.hid hst
          clear hrun hown' hg' hlies hb' hst hs h1 h2 hc hi hg hrow hbel hsf hln
          go_wp2_with (at_builtin; refine Lib.wpList_append_run wr rfl _ _ _ _ rfl _ _ rfl rfl _ _ HRUN.out ?_)
          go_roundw
          case rel => exact ⟨i + 1, by go_num, by omega, by rw [HST.out]; unfold RowI; rw [List.length_append, List.map_append]; exact HOWN2.out, HB2.out⟩
          case measure => simp [intOf]; omega
        · have d2 : decide ((i : Int) < (L : Int)) = false := by simp; omega
          have hall : R.take i = R := List.take_of_length_le (by have := HL.out; omega)
          rw [hall] at hrow
          obtain ⟨va, vc, rfl, -⟩ := own_shape hrow
          have HROW := Lib.hid hrow
          have HB2 := Lib.hid hbel
          clear hrow hbel hall hi
          go_wp2_with fail
          go_ret
          exact ⟨_, rfl, HROW.out, HB2.out⟩
end Go.Proofs.Ytkhajpefnkialaa.Job
