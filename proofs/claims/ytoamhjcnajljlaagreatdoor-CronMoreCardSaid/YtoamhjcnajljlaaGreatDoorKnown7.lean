/- The law's own examples: 'known' answers true. -/
import Derived.Test.YtoamhjcnajljlaaGreatDoorParseX
import Derived.Test.YtoamhjcnajljlaaGreatDoorDayFits
import Derived.Test.YtoamhjcnajljlaaGreatDoorCSplitIn
namespace Go.Proofs.YtoamhjcnajljlaaGreatDoor
open Go.RowKit

def lA : List UInt8 := [48, 32, 48, 32, 49, 51, 32, 42, 32, 102, 114, 105]
def lB : List UInt8 := [48, 32, 48, 32, 42, 47, 50, 32, 42, 32, 109, 111, 110]
def lC : List UInt8 := [42, 32, 42, 32, 42, 32, 42]
def lD : List UInt8 := [64, 110, 111, 111, 110]
def lE : List UInt8 := [54, 49, 32, 42, 32, 42, 32, 42, 32, 42]
theorem k_errs : Cron.pErr lA = 0 ∧ Cron.pErr lB = 0 ∧ Cron.pErr lC = 70 ∧ Cron.pErr lD = 70 ∧ Cron.pErr lE = 61 := by decide +kernel
theorem k_fits : Cron.fits (Cron.pB lA) (Cron.pS lA) 2024 9 13 0 0 0 5 = true ∧ Cron.fits (Cron.pB lA) (Cron.pS lA) 2024 9 20 0 0 0 5 = true ∧ Cron.fits (Cron.pB lB) (Cron.pS lB) 2024 7 1 0 0 0 1 = true ∧ Cron.fits (Cron.pB lB) (Cron.pS lB) 2024 7 3 0 0 0 3 = false := by decide +kernel
theorem k_days : Stm.may 2024 9 13 0 0 0 5 ∧ Stm.may 2024 9 20 0 0 0 5 ∧ Stm.may 2024 7 1 0 0 0 1 ∧ Stm.may 2024 7 3 0 0 0 3 := by decide +kernel
theorem k_nums : Stm.num 2024 9 13 0 0 0 = 19979 * 86400 ∧ Stm.num 2024 9 20 0 0 0 = 19986 * 86400 ∧ Stm.num 2024 7 1 0 0 0 = 19905 * 86400 ∧ Stm.num 2024 7 3 0 0 0 = 19907 * 86400 := by decide +kernel

def clkv (y m d h i x k : Int) : Value := .agg #[.int .i64 y, .int .i64 m, .int .i64 d, .int .i64 h, .int .i64 i, .int .i64 x, .int .i64 k]
set_option maxRecDepth 100000 in
set_option maxHeartbeats 1000000 in
theorem day_any (n y m d k : Int) (h0 : 0 ≤ n ∧ n ≤ 1000000) (hm : Stm.may y m d 0 0 0 k) (hn : Stm.num y m d 0 0 0 = n * 86400) (w : World) : Calls Tryz.prog 18 #[.int .i64 n] w fun e w' => e = .returned (clkv y m d 0 0 0 k) ∧ Below w.heap.size w w' := by
  have RS := fun W => Civ.refSplit_in y m d 0 0 0 k W hm
  rw [hn] at RS
  have RS2 := Lib.hid RS
  have O := Lib.hid (Civ.Own.new w 0 0 0 0 0 0 0)
  unfold clkv
  clear RS hm hn
  go_enter Tryz.func18, Tryz.ntmps18
  go_wp2_with fail
  with_reducible refine (RS2.out _).mono ?_
  rintro e w1 ⟨rfl, hb1⟩
  have O1 := Lib.hid ((O.out.below hb1).alloc (.cells #[.int .i64 y, .int .i64 m, .int .i64 d, .int .i64 0, .int .i64 0, .int .i64 0, .int .i64 k] 35))
  clear hb1 O RS2
  obtain ⟨c0, c1, c2, c3, c4, c5, c6⟩ := Civ.clk_cells O1.out.row
  have f := fun j => O1.out.free j
  go_wp2_with fail
  change bodyPost _ _ _ _ _ (Civ.wroteC _ w.heap.size y m d 0 0 0 k)
  have OF := O1.out.wrote (y' := y) (m' := m) (d' := d) (h' := 0) (i' := 0) (s' := 0) (k' := k)
  clear c0 c1 c2 c3 c4 c5 c6 f
  generalize Civ.wroteC _ w.heap.size y m d 0 0 0 k = WF at *
  obtain ⟨c0, c1, c2, c3, c4, c5, c6⟩ := Civ.clk_cells OF.row
  refine bodyPost_ret (v := .agg #[.int .i64 y, .int .i64 m, .int .i64 d, .int .i64 0, .int .i64 0, .int .i64 0, .int .i64 k]) (by simp [results, Tryz.results18, go_sem, c0, c1, c2, c3, c4, c5, c6]) rfl ⟨rfl, OF.bel⟩

theorem in_day (m d k : Int) (hm : 0 ≤ m ∧ m ≤ 100) (hd : 0 ≤ d ∧ d ≤ 100) (hk : 0 ≤ k ∧ k ≤ 100) : inInts m d 0 0 k := by
  unfold inInts
  refine five ?_ ?_ ?_ ?_ ?_ <;> simp only [shows] <;> omega
theorem p_other {l : List UInt8} (h : Cron.pErr l ≠ 0) : xval (Cron.pB l) (Cron.pS l) = xval (fun _ => 0) (fun _ => false) := by
  unfold xval
  congr 1
  unfold Cron.pErr at h
  unfold Cron.pB Cron.pS
  split
  · rfl
  · rename_i h1
    rw [if_neg h1] at h
    split
    · rename_i h2
      rw [if_pos h2] at h
      cases hn : Cron.nameOf l with
      | none => rw [(Cron.nm_none hn).1, (Cron.nm_none hn).2]
      | some t => rw [hn] at h; exact absurd rfl h
    · rename_i h2
      rw [if_neg h2] at h
      exact Cron.sp_none h

set_option maxRecDepth 100000 in
set_option maxHeartbeats 8000000 in
theorem known7_any (w : World) (hw : World7 w) (hn : NamesOn w) : Calls Tryz.prog 6 #[] w fun e w' => e = .returned (.bool true) ∧ Below w.heap.size w w' := by
  have PA := fun W hW hN => parseX_any ⟨#[48, 32, 48, 32, 49, 51, 32, 42, 32, 102, 114, 105]⟩ W hW hN
  have PB := fun W hW hN => parseX_any ⟨#[48, 32, 48, 32, 42, 47, 50, 32, 42, 32, 109, 111, 110]⟩ W hW hN
  have PC := fun W hW hN => parseX_any ⟨#[42, 32, 42, 32, 42, 32, 42]⟩ W hW hN
  have PD := fun W hW hN => parseX_any ⟨#[64, 110, 111, 111, 110]⟩ W hW hN
  have PE := fun W hW hN => parseX_any ⟨#[54, 49, 32, 42, 32, 42, 32, 42, 32, 42]⟩ W hW hN
  rw [show (ByteArray.mk #[48, 32, 48, 32, 49, 51, 32, 42, 32, 102, 114, 105]).data.toList = lA from rfl] at PA
  rw [show (ByteArray.mk #[48, 32, 48, 32, 42, 47, 50, 32, 42, 32, 109, 111, 110]).data.toList = lB from rfl] at PB
  rw [show (ByteArray.mk #[42, 32, 42, 32, 42, 32, 42]).data.toList = lC from rfl] at PC
  rw [show (ByteArray.mk #[64, 110, 111, 111, 110]).data.toList = lD from rfl] at PD
  rw [show (ByteArray.mk #[54, 49, 32, 42, 32, 42, 32, 42, 32, 42]).data.toList = lE from rfl] at PE
  obtain ⟨eA, eB, eC, eD, eE⟩ := k_errs
  have xC := p_other (l := lC) (by rw [eC]; decide)
  have xD := p_other (l := lD) (by rw [eD]; decide)
  have xE := p_other (l := lE) (by rw [eE]; decide)
  unfold pres7 at PA PB PC PD PE
  rw [eA] at PA
  rw [eB] at PB
  rw [eC, xC] at PC
  rw [eD, xD] at PD
  rw [eE, xE] at PE
  have FA1 := fun W hW => fits_any (Cron.pB lA) (Cron.pS lA) (Cron.pB_lt lA) 2024 9 13 0 0 0 5 (in_day 9 13 5 (by decide) (by decide) (by decide)) W hW
  have FA2 := fun W hW => fits_any (Cron.pB lA) (Cron.pS lA) (Cron.pB_lt lA) 2024 9 20 0 0 0 5 (in_day 9 20 5 (by decide) (by decide) (by decide)) W hW
  have FB1 := fun W hW => fits_any (Cron.pB lB) (Cron.pS lB) (Cron.pB_lt lB) 2024 7 1 0 0 0 1 (in_day 7 1 1 (by decide) (by decide) (by decide)) W hW
  have FB2 := fun W hW => fits_any (Cron.pB lB) (Cron.pS lB) (Cron.pB_lt lB) 2024 7 3 0 0 0 3 (in_day 7 3 3 (by decide) (by decide) (by decide)) W hW
  rw [k_fits.1] at FA1
  rw [k_fits.2.1] at FA2
  rw [k_fits.2.2.1] at FB1
  rw [k_fits.2.2.2] at FB2
  have D1 := fun W => day_any 19979 2024 9 13 5 (by decide) k_days.1 k_nums.1 W
  have D2 := fun W => day_any 19986 2024 9 20 5 (by decide) k_days.2.1 k_nums.2.1 W
  have D3 := fun W => day_any 19905 2024 7 1 1 (by decide) k_days.2.2.1 k_nums.2.2.1 W
  have D4 := fun W => day_any 19907 2024 7 3 3 (by decide) k_days.2.2.2 k_nums.2.2.2 W
  generalize Cron.pB lA = bA at *
  generalize Cron.pS lA = sA at *
  generalize Cron.pB lB = bB at *
  generalize Cron.pS lB = sB at *
  clear eA eB eC eD eE xC xD xE
  unfold xval xcells at PA PB PC PD PE FA1 FA2 FB1 FB2
  unfold clkv at D1 D2 D3 D4
  have PA2 := Lib.hid PA
  have PB2 := Lib.hid PB
  have PC2 := Lib.hid PC
  have PD2 := Lib.hid PD
  have PE2 := Lib.hid PE
  have FA12 := Lib.hid FA1
  have FA22 := Lib.hid FA2
  have FB12 := Lib.hid FB1
  have FB22 := Lib.hid FB2
  have D12 := Lib.hid D1
  have D22 := Lib.hid D2
  have D32 := Lib.hid D3
  have D42 := Lib.hid D4
  have HW := Lib.hid hw
  have HN := Lib.hid hn
  clear PA PB PC PD PE FA1 FA2 FB1 FB2 D1 D2 D3 D4 hw hn
  go_enter Tryz.func6, Tryz.ntmps6
  go_wp2_with fail
  with_reducible refine (PA2.out _ HW.out.tabs HN.out).mono ?_
  rintro e w1 ⟨rfl, hb1⟩
  have OA := Lib.hid (OwnX.newAt hb1 bA sA)
  clear hb1 PA2
  go_wp2_with fail
  with_reducible refine (PB2.out _ (HW.out.next OA.out.bel).tabs (HN.out.next OA.out.bel)).mono ?_
  rintro e w2 ⟨rfl, hb2⟩
  have OA2 := Lib.hid (OA.out.below hb2)
  have OB := Lib.hid (OwnX.newAt OA2.out.bel bB sB)
  have OA3 := Lib.hid (OA2.out.alloc (.cells #[.int .u64 ((bB 0 : Nat) : Int), .bool (sB 0), .int .u64 ((bB 1 : Nat) : Int), .bool (sB 1), .int .u64 ((bB 2 : Nat) : Int), .bool (sB 2), .int .u64 ((bB 3 : Nat) : Int), .bool (sB 3), .int .u64 ((bB 4 : Nat) : Int), .bool (sB 4)] 27))
  clear hb2 PB2 OA OA2
  go_wp2_with fail
  with_reducible refine (PC2.out _ (HW.out.next OB.out.bel).tabs (HN.out.next OB.out.bel)).mono ?_
  rintro e w3 ⟨rfl, hb3⟩
  have OA4 := Lib.hid ((OA3.out.below hb3).alloc (.cells zeroX 27))
  have OB4 := Lib.hid ((OB.out.below hb3).alloc (.cells zeroX 27))
  clear hb3 PC2 OA3 OB
  go_wp2_with fail
  with_reducible refine (PD2.out _ (HW.out.next OB4.out.bel).tabs (HN.out.next OB4.out.bel)).mono ?_
  rintro e w4 ⟨rfl, hb4⟩
  have OA5 := Lib.hid ((OA4.out.below hb4).alloc (.cells zeroX 27))
  have OB5 := Lib.hid ((OB4.out.below hb4).alloc (.cells zeroX 27))
  clear hb4 PD2 OA4 OB4
  go_wp2_with fail
  with_reducible refine (PE2.out _ (HW.out.next OB5.out.bel).tabs (HN.out.next OB5.out.bel)).mono ?_
  rintro e w5 ⟨rfl, hb5⟩
  have OA6 := Lib.hid ((OA5.out.below hb5).alloc (.cells zeroX 27))
  have OB6 := Lib.hid ((OB5.out.below hb5).alloc (.cells zeroX 27))
  clear hb5 PE2 OA5 OB5
  go_wp2_with fail
  generalize w5.alloc (.cells zeroX 27) = W6 at *
  obtain ⟨c0, c1, c2, c3, c4, c5, c6, c7, c8, c9⟩ := xobj_cells OA6.out.row
  obtain ⟨d0, d1, d2, d3, d4, d5, d6, d7, d8, d9⟩ := xobj_cells OB6.out.row
  have TW := Lib.hid (fun W (hB : Below W6.heap.size W6 W) => HW.out.next (OA6.out.bel.trans (hB.mono OA6.out.bel.size)))
  go_region_held3 (fun w' => w'.cell? ⟨w1.heap.size, 0, none⟩ = some (.int .u64 ((bA 0 : Nat) : Int)) ∧ w'.cell? ⟨w1.heap.size, 1, none⟩ = some (.bool (sA 0)) ∧ w'.cell? ⟨w1.heap.size, 2, none⟩ = some (.int .u64 ((bA 1 : Nat) : Int)) ∧ w'.cell? ⟨w1.heap.size, 3, none⟩ = some (.bool (sA 1)) ∧ w'.cell? ⟨w1.heap.size, 4, none⟩ = some (.int .u64 ((bA 2 : Nat) : Int)) ∧ w'.cell? ⟨w1.heap.size, 5, none⟩ = some (.bool (sA 2)) ∧ w'.cell? ⟨w1.heap.size, 6, none⟩ = some (.int .u64 ((bA 3 : Nat) : Int)) ∧ w'.cell? ⟨w1.heap.size, 7, none⟩ = some (.bool (sA 3)) ∧ w'.cell? ⟨w1.heap.size, 8, none⟩ = some (.int .u64 ((bA 4 : Nat) : Int)) ∧ w'.cell? ⟨w1.heap.size, 9, none⟩ = some (.bool (sA 4)) ∧ w'.cell? ⟨w2.heap.size, 0, none⟩ = some (.int .u64 ((bB 0 : Nat) : Int)) ∧ w'.cell? ⟨w2.heap.size, 1, none⟩ = some (.bool (sB 0)) ∧ w'.cell? ⟨w2.heap.size, 2, none⟩ = some (.int .u64 ((bB 1 : Nat) : Int)) ∧ w'.cell? ⟨w2.heap.size, 3, none⟩ = some (.bool (sB 1)) ∧ w'.cell? ⟨w2.heap.size, 4, none⟩ = some (.int .u64 ((bB 2 : Nat) : Int)) ∧ w'.cell? ⟨w2.heap.size, 5, none⟩ = some (.bool (sB 2)) ∧ w'.cell? ⟨w2.heap.size, 6, none⟩ = some (.int .u64 ((bB 3 : Nat) : Int)) ∧ w'.cell? ⟨w2.heap.size, 7, none⟩ = some (.bool (sB 3)) ∧ w'.cell? ⟨w2.heap.size, 8, none⟩ = some (.int .u64 ((bB 4 : Nat) : Int)) ∧ w'.cell? ⟨w2.heap.size, 9, none⟩ = some (.bool (sB 4)) ∧ Below W6.heap.size W6 w')
    (first
      | exact ⟨c0, c1, c2, c3, c4, c5, c6, c7, c8, c9, d0, d1, d2, d3, d4, d5, d6, d7, d8, d9, (Below.refl _ _).drew⟩
      | go_keep
      | (go_split_ands; exact ⟨stays hb9 (by assumption), stays hb9 (by assumption), stays hb9 (by assumption), stays hb9 (by assumption), stays hb9 (by assumption), stays hb9 (by assumption), stays hb9 (by assumption), stays hb9 (by assumption), stays hb9 (by assumption), stays hb9 (by assumption), stays hb9 (by assumption), stays hb9 (by assumption), stays hb9 (by assumption), stays hb9 (by assumption), stays hb9 (by assumption), stays hb9 (by assumption), stays hb9 (by assumption), stays hb9 (by assumption), stays hb9 (by assumption), stays hb9 (by assumption), Below.trans (by assumption) (hb9.mono (Below.size (by assumption)))⟩))
    (first
      | (go_at_call 18; first
          | (with_reducible refine (D12.out _).mono ?_; rintro e w9 ⟨rfl, hb9⟩)
          | (with_reducible refine (D22.out _).mono ?_; rintro e w9 ⟨rfl, hb9⟩)
          | (with_reducible refine (D32.out _).mono ?_; rintro e w9 ⟨rfl, hb9⟩)
          | (with_reducible refine (D42.out _).mono ?_; rintro e w9 ⟨rfl, hb9⟩))
      | (go_at_call 13; (try go_split_ands); first
          | (with_reducible refine (FA12.out _ (TW.out _ (by assumption))).mono ?_; rintro e w9 ⟨rfl, hb9⟩)
          | (with_reducible refine (FA22.out _ (TW.out _ (by assumption))).mono ?_; rintro e w9 ⟨rfl, hb9⟩)
          | (with_reducible refine (FB12.out _ (TW.out _ (by assumption))).mono ?_; rintro e w9 ⟨rfl, hb9⟩)
          | (with_reducible refine (FB22.out _ (TW.out _ (by assumption))).mono ?_; rintro e w9 ⟨rfl, hb9⟩)))
  rename_i hHeld
  have hBW : Below W6.heap.size W6 _ := (hHeld.2.2.2.2.2.2.2.2.2.2.2.2.2.2.2.2.2.2.2.2)
  go_wp2_with fail
  go_ret
  exact ⟨rfl, OA6.out.bel.trans (hBW.mono OA6.out.bel.size)⟩
end Go.Proofs.YtoamhjcnajljlaaGreatDoor
