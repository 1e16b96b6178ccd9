/- vote.Put and vote.Keep, by their contracts. -/
import Derived.Test.YtaljfpkgancidaaWrA
import Derived.Test.YtaljfpkgancidaaChA
namespace Go.Proofs.Ytaljfpkgancidaa
open Go.RowKit Go.Maps Go.Sort Dsk

def voteN : Name := [118, 111, 116, 101]
def shotN : Name := [115, 104, 111, 116]

/-- a row of rows of one -/
theorem one_slices {w w' : World} {b : Nat} {zs : List Int} {a : Option Addr} {c : Nat} (hb : w'.heap[b]? = some (.cells #[.slice a zs.length c] 25 (0, 0))) (hr : Reads w a zs) (h0 : Below w.heap.size w w') : SlicesAt w' (some ⟨b, 0, none⟩) [zs] :=
  ⟨fun i hi => by
    obtain rfl : i = 0 := by simp at hi; omega
    exact ⟨⟨b, 0, none⟩, a, c, rfl, by rw [show ((⟨b, 0, none⟩ : Addr).add 0) = ⟨b, 0, none⟩ by unfold Addr.add; split <;> simp_all, cell_of_row _ _ 0 _ _ _ hb]; rfl, lt_of_block hb, hr.below h0⟩⟩

set_option maxRecDepth 100000 in
set_option maxHeartbeats 1000000 in
theorem voteput_any (g B N : Nat) (o : Tags) (M : Files) (t v : Nat) (w : World) (hl : Liv w B o g M N) (ht : t < 18446744073709551616) (hv : v < 18446744073709551616) :
    Calls Try.prog 7 #[.pointer (some ⟨g, 0, none⟩), .agg #[.int .u64 (t : Int), .int .u64 (v : Int)]] w fun e w' => e = .returned (.int .i64 0) ∧ ∃ o', DiskAt w' B o' g (upd M voteN (some (sureF (Vt.voteOf t v)))) (cntN M voteN N) ∧ Step o w o' w' := by
  have hb1 : Below w.heap.size w ((w.alloc (.cells #[.int .u64 (t : Int), .int .u64 (v : Int)] 24)).alloc (.cells #[.int .u64 (t : Int), .int .u64 (v : Int)] 22)) := ((Below.refl _ _).alloc (Nat.le_refl _) _).alloc (by simp) _
  have hblk : ((w.alloc (.cells #[.int .u64 (t : Int), .int .u64 (v : Int)] 24)).alloc (.cells #[.int .u64 (t : Int), .int .u64 (v : Int)] 22)).heap[w.heap.size + 1]? = some (.cells #[.int .u64 (t : Int), .int .u64 (v : Int)] 22 (0, 0)) := by
    have := heap_alloc_new (w.alloc (.cells #[.int .u64 (t : Int), .int .u64 (v : Int)] 24)) (.cells #[.int .u64 (t : Int), .int .u64 (v : Int)] 22)
    rwa [World.size_alloc] at this
  have HREC := Lib.hid (record_any (w.heap.size + 1) 2 [t, v] _ (Vt.small2 ht hv) (by simp) (fun i hi => by
    rw [cell_of_row _ _ i _ _ _ hblk]
    match i, hi with
    | 0, _ => rfl
    | 1, _ => rfl
    | i + 2, hi => (simp only [List.length_cons, List.length_nil] at hi; omega)))
  have HL := Lib.hid hl
  have HB1 := Lib.hid hb1
  have HT := Lib.hid (And.intro ht hv)
  clear hl hb1 hblk ht hv
  go_enter Try.func7, Try.ntmps7
  go_wp2_with fail
  refine HREC.out.mono ?_
  rintro e w1 ⟨rv, rfl, hrow, hb2⟩
  have hrl := Vt.rec2_len t v
  have hrr := Vt.recOf_range _ (Vt.small2 HT.out.1 HT.out.2)
  obtain ⟨ra, rc, rfl, hh, _, _, _, _⟩ := row_src hrow hrr (by omega)
  have hbw := HB1.out.trans (hb2.mono HB1.out.size)
  have hal : Below w1.heap.size w1 (w1.alloc (.cells #[.slice ra (Vt.recOf [t, v]).length rc] 25)) := (Below.refl _ _).alloc (Nat.le_refl _) _
  have HW := Lib.hid (write_any g B N o M voteN (some ⟨w1.heap.size, 0, none⟩) 1 [Vt.recOf [t, v]] _ (HL.out.below (hbw.trans (hal.mono hbw.size))) (one_slices (heap_alloc_new _ _) hh.reads hal) (by simp)
    (by intro z hz; simp at hz; subst hz; omega) (by
      rw [Vt.flat_one, Frame.frame_len]
      have := Num.put_len (Vt.recOf [t, v]).length
      omega) (by simp) (by decide) (by decide))
  rw [Vt.flat_one] at HW
  have HBW := Lib.hid (hbw.trans (hal.mono hbw.size))
  clear hrow hb2 hh hbw hal HREC HB1 hrl hrr
  go_wp2_with fail
  refine HW.out.mono ?_
  rintro e w2 ⟨rfl, o2, hd2, hs2⟩
  have HD2 := Lib.hid hd2
  have HS2 := Lib.hid hs2
  clear hd2 hs2
  go_wp2_with fail
  go_ret
  exact ⟨rfl, o2, HD2.out, (Step.of_below o HBW.out).trans HS2.out⟩

set_option maxRecDepth 100000 in
set_option maxHeartbeats 1000000 in
theorem voteput_no (x : Value) (t v : Nat) (w : World) (hl : NoDisk w x) (ht : t < 18446744073709551616) (hv : v < 18446744073709551616) :
    Calls Try.prog 7 #[x, .agg #[.int .u64 (t : Int), .int .u64 (v : Int)]] w fun e w' => e = .returned (.int .i64 1) ∧ Below w.heap.size w w' := by
  have hb1 : Below w.heap.size w ((w.alloc (.cells #[.int .u64 (t : Int), .int .u64 (v : Int)] 24)).alloc (.cells #[.int .u64 (t : Int), .int .u64 (v : Int)] 22)) := ((Below.refl _ _).alloc (Nat.le_refl _) _).alloc (by simp) _
  have hblk : ((w.alloc (.cells #[.int .u64 (t : Int), .int .u64 (v : Int)] 24)).alloc (.cells #[.int .u64 (t : Int), .int .u64 (v : Int)] 22)).heap[w.heap.size + 1]? = some (.cells #[.int .u64 (t : Int), .int .u64 (v : Int)] 22 (0, 0)) := by
    have := heap_alloc_new (w.alloc (.cells #[.int .u64 (t : Int), .int .u64 (v : Int)] 24)) (.cells #[.int .u64 (t : Int), .int .u64 (v : Int)] 22)
    rwa [World.size_alloc] at this
  have HREC := Lib.hid (record_any (w.heap.size + 1) 2 [t, v] _ (Vt.small2 ht hv) (by simp) (fun i hi => by
    rw [cell_of_row _ _ i _ _ _ hblk]
    match i, hi with
    | 0, _ => rfl
    | 1, _ => rfl
    | i + 2, hi => (simp only [List.length_cons, List.length_nil] at hi; omega)))
  have HL := Lib.hid hl
  have HB1 := Lib.hid hb1
  have HT := Lib.hid (And.intro ht hv)
  clear hl hb1 hblk ht hv
  go_enter Try.func7, Try.ntmps7
  go_wp2_with fail
  refine HREC.out.mono ?_
  rintro e w1 ⟨rv, rfl, hrow, hb2⟩
  have hrl := Vt.rec2_len t v
  have hrr := Vt.recOf_range _ (Vt.small2 HT.out.1 HT.out.2)
  obtain ⟨ra, rc, rfl, hh, _, _, _, _⟩ := row_src hrow hrr (by omega)
  have hbw := HB1.out.trans (hb2.mono HB1.out.size)
  have hal : Below w1.heap.size w1 (w1.alloc (.cells #[.slice ra (Vt.recOf [t, v]).length rc] 25)) := (Below.refl _ _).alloc (Nat.le_refl _) _
  have HW := Lib.hid (write_no x (.string ⟨voteN.toArray⟩) (some ⟨w1.heap.size, 0, none⟩) 1 [Vt.recOf [t, v]] _ (HL.out.below (hbw.trans (hal.mono hbw.size))) (one_slices (heap_alloc_new _ _) hh.reads hal) (by simp)
    (by intro z hz; simp at hz; subst hz; omega) (by
      rw [Vt.flat_one, Frame.frame_len]
      have := Num.put_len (Vt.recOf [t, v]).length
      omega) (by simp))
  have HBW := Lib.hid (hbw.trans (hal.mono hbw.size))
  clear hrow hb2 hh hbw hal HREC HB1 hrl hrr
  go_wp2_with fail
  refine HW.out.mono ?_
  rintro e w2 ⟨rfl, hb3⟩
  go_wp2_with fail
  go_ret
  exact ⟨rfl, HBW.out.trans (hb3.mono HBW.out.size)⟩

/-- a shot's frames have not many bytes -/
theorem flat_bound : ∀ ls : List (List Int), (Frame.flat ls).length ≤ ls.flatten.length + 15 * ls.length
  | [] => by simp [Frame.flat]
  | z :: ls => by
    have h1 := flat_bound ls
    have h2 := Num.put_len z.length
    rw [Vt.flat_cons, List.length_append, Frame.frame_len, List.flatten_cons, List.length_append, List.length_cons]
    omega
theorem count_le {n : Nat} (h : n ≤ 262144) : Vt.count n ≤ 66 := by unfold Vt.count; omega
theorem shot_len {i t : Nat} {img : List Int} (h : img.length ≤ 262144) : (Vt.shotOf i t img).length ≤ 264000 := by
  have h1 := flat_bound (Vt.recOf [i, t, img.length] :: Vt.parts img)
  have h2 := count_le h
  have h3 := Vt.rec3_len i t img.length
  rw [List.flatten_cons, Vt.flat_parts, List.length_append, List.length_cons, Vt.parts_len] at h1
  unfold Vt.shotOf
  omega

set_option maxRecDepth 100000 in
set_option maxHeartbeats 1000000 in
theorem keep_any (g B N : Nat) (o : Tags) (M : Files) (i t : Nat) (a : Option Addr) (c : Nat) (img : List Int) (w : World) (hl : Liv w B o g M N) (hi : i < 18446744073709551616) (ht : t < 18446744073709551616) (hr : Reads w a img) (hlen : img.length ≤ 262144) (hcap : img.length ≤ c) :
    Calls Try.prog 8 #[.pointer (some ⟨g, 0, none⟩), .agg #[.int .u64 (i : Int), .int .u64 (t : Int), .slice a img.length c]] w fun e w' => e = .returned (.int .i64 0) ∧ ∃ o', DiskAt w' B o' g (upd M shotN (some (sureF (Vt.shotOf i t img)))) (cntN M shotN N) ∧ Step o w o' w' := by
  have hb1 : Below w.heap.size w (w.alloc (.cells #[.int .u64 (i : Int), .int .u64 (t : Int), .slice a img.length c] 27)) := (Below.refl _ _).alloc (Nat.le_refl _) _
  have hb2 : Below w.heap.size w ((w.alloc (.cells #[.int .u64 (i : Int), .int .u64 (t : Int), .slice a img.length c] 27)).alloc (.cells #[.int .u64 (i : Int), .int .u64 (t : Int), .int .u64 (img.length : Int)] 22)) := hb1.alloc (by simp) _
  have hblk : ((w.alloc (.cells #[.int .u64 (i : Int), .int .u64 (t : Int), .slice a img.length c] 27)).alloc (.cells #[.int .u64 (i : Int), .int .u64 (t : Int), .int .u64 (img.length : Int)] 22)).heap[w.heap.size + 1]? = some (.cells #[.int .u64 (i : Int), .int .u64 (t : Int), .int .u64 (img.length : Int)] 22 (0, 0)) := by
    have := heap_alloc_new (w.alloc (.cells #[.int .u64 (i : Int), .int .u64 (t : Int), .slice a img.length c] 27)) (.cells #[.int .u64 (i : Int), .int .u64 (t : Int), .int .u64 (img.length : Int)] 22)
    rwa [World.size_alloc] at this
  have hsbx : ((w.alloc (.cells #[.int .u64 (i : Int), .int .u64 (t : Int), .slice a img.length c] 27)).alloc (.cells #[.int .u64 (i : Int), .int .u64 (t : Int), .int .u64 (img.length : Int)] 22)).heap[w.heap.size]? = some (.cells #[.int .u64 (i : Int), .int .u64 (t : Int), .slice a img.length c] 27 (0, 0)) :=
    (Below.heap_alloc _ _ _ (by simp)).trans (heap_alloc_new w _)
  have hsm := Vt.small3 (u := img.length) hi ht (by omega)
  have HREC := Lib.hid (record_any (w.heap.size + 1) 3 [i, t, img.length] _ hsm (by simp) (fun j hj => by
    rw [cell_of_row _ _ j _ _ _ hblk]
    match j, hj with
    | 0, _ => rfl
    | 1, _ => rfl
    | 2, _ => rfl
    | j + 3, hj => (simp only [List.length_cons, List.length_nil] at hj; omega)))
  have HNO := Lib.hid (isNone_live (hl.disk.below hb1))
  have HL := Lib.hid hl
  have HB2 := Lib.hid hb2
  have HSM := Lib.hid hsm
  have HR := Lib.hid hr
  have HSB := Lib.hid hsbx
  have HLEN := Lib.hid hlen
  clear hl hb1 hb2 hblk hi ht hr hsm hsbx
  go_enter Try.func8, Try.ntmps8
  go_wp2_with fail
  refine HNO.out.mono ?_
  rintro e w1 ⟨rfl, rfl⟩
  clear HNO
  go_wp2_with fail
  refine HREC.out.mono ?_
  rintro e w2 ⟨rv, rfl, hrow, hb3⟩
  have hrl := Vt.rec3_len i t img.length
  have hrr := Vt.recOf_range _ HSM.out
  obtain ⟨ra, rc, rfl, hh, _, _, _, _⟩ := row_src hrow hrr (by omega)
  have hbw := HB2.out.trans (hb3.mono HB2.out.size)
  have hal : Below w2.heap.size w2 (w2.alloc (.cells #[.slice ra (Vt.recOf [i, t, img.length]).length rc] 25)) := (Below.refl _ _).alloc (Nat.le_refl _) _
  have hlit : (w2.alloc (.cells #[.slice ra (Vt.recOf [i, t, img.length]).length rc] 25)).ownsRow w2.heap.size 25 1 (.slice (some ⟨w2.heap.size, 0, none⟩) 1 1) 1 [.slice ra (Vt.recOf [i, t, img.length]).length rc] :=
    World.ownsRow_lit w2 #[.slice ra (Vt.recOf [i, t, img.length]).length rc] 1 (Nat.le_refl _) (by unfold maxLen; omega) rfl
  have HCH := Lib.hid (chunk_any a img.length c (w2.alloc (.cells #[.slice ra (Vt.recOf [i, t, img.length]).length rc] 25)))
  have hsb2 := (hal.block _ (Nat.lt_of_lt_of_le (lt_of_block HSB.out) hb3.size)).trans ((hb3.block _ (lt_of_block HSB.out)).trans HSB.out)
  have s2 : (w2.alloc (.cells #[.slice ra (Vt.recOf [i, t, img.length]).length rc] 25)).cell? ⟨w.heap.size, 2, none⟩ = some (.slice a img.length c) := by rw [cell_of_row _ _ 2 _ _ _ hsb2]; rfl
  have HRR := Lib.hid hh.reads
  have HLIT := Lib.hid hlit
  have HBW := Lib.hid hbw
  have HAL := Lib.hid hal
  obtain ⟨rn, hrn⟩ : ∃ rn, rn = (Vt.recOf [i, t, img.length]).length := ⟨_, rfl⟩
  rw [← hrn] at HCH s2 HLIT HAL ⊢
  have HRN := Lib.hid hrn
  clear hrow hb3 hh hbw hal hlit hsb2 HREC hrl hrr hrn HSB HB2
  go_wp2_with fail
  refine HCH.out.mono ?_
  rintro e w3 ⟨rfl, hbp, hbq, hb4⟩
  have hsz4 := hb4.size
  simp only [World.size_alloc] at hsz4 hbp hbq hb4
  have hrow3 := ownsRow_keep HLIT.out (w' := w3) (fun j e => hb4.block j (by have := (World.ownsRow.lt HLIT.out j e).2; simpa using this))
  have HAP := Lib.hid (appendSeq_any w2.heap.size 1 _ (some ⟨w2.heap.size, 0, none⟩) 1 (w2.heap.size + 1) (w2.heap.size + 1 + 1) a img.length c w3 hrow3 (by omega) (by omega) (by omega) hcap hbp hbq (by simp [Value.ownBlock]))
  have HB4 := Lib.hid (HAL.out.trans (hb4.mono (by omega)))
  clear hrow3 hbp hbq hb4 HCH HLIT s2
  go_wp2_with fail
  refine HAP.out.mono ?_
  rintro e w4 ⟨v4, rfl, hrow4, hb5⟩
  have hb24 := HB4.out.trans hb5
  obtain ⟨a4, c4, rfl, h4⟩ := slice_shape hrow4
  obtain ⟨b4, rfl⟩ : ∃ b4, a4 = some ⟨b4, 0, none⟩ := by
    rcases hrow4.2 with ⟨he, h0⟩ | ⟨fg, cap, cur, he, _⟩
    · omega
    · cases he; exact ⟨fg, rfl⟩
  have hcl : (1 + Vt.count img.length) = (Vt.recOf [i, t, img.length] :: Vt.parts img).length := by rw [List.length_cons, Vt.parts_len]; omega
  have hsl : SlicesAt w4 (some ⟨b4, 0, none⟩) (Vt.recOf [i, t, img.length] :: Vt.parts img) := ⟨fun k hk => by
    have hcell := hrow4.cellAt k (by omega)
    have hadd : ((⟨b4, 0, none⟩ : Addr).add k) = ⟨b4, k, none⟩ := by unfold Addr.add; split <;> simp_all
    have hb4l := World.block_lt_of_cell? w4 ⟨b4, k, none⟩ (u := ([Value.slice ra rn rc] ++ (List.range (Vt.count img.length)).map (chunkVal a img.length))[k]?.getD undef) (by
      rw [hcell, List.getElem?_eq_getElem (by simp; omega)]
      rfl)
    rcases k with _ | k
    · refine ⟨⟨b4, 0, none⟩, ra, rc, rfl, ?_, hb4l, ?_⟩
      · rw [hadd, hcell]
        simp [HRN.out]
      · exact HRR.out.below hb24
    · have hkc : k < Vt.count img.length := by omega
      have hpl : (Vt.recOf [i, t, img.length] :: Vt.parts img).getD (k + 1) [] = Vt.part img k := by
        rw [List.getD_cons_succ, List.getD, Vt.parts_at _ _ hkc]; rfl
      refine ⟨⟨b4, 0, none⟩, Option.map (fun x => x.add (4000 * k)) a, (Vt.part img k).length, rfl, ?_, hb4l, ?_⟩
      · rw [hadd, hcell, hpl, Vt.part_len]
        simp [hkc, chunkVal]
      · rw [hpl]
        exact (((HR.out.below (HBW.out.trans (hb24.mono HBW.out.size))).drop (4000 * k)).take 4000)⟩
  have hll := HLEN.out
  have HW := Lib.hid (write_any g B N o M shotN (some ⟨b4, 0, none⟩) c4 (Vt.recOf [i, t, img.length] :: Vt.parts img) w4 (HL.out.below (HBW.out.trans (hb24.mono HBW.out.size))) hsl (by simp) (Vt.shot_small ⟨i, t, img⟩)
    (by have := shot_len (i := i) (t := t) HLEN.out; unfold Vt.shotOf at this; omega) (by have := count_le HLEN.out; omega) (by decide) (by decide))
  rw [← hcl] at HW
  have HBX := Lib.hid (HBW.out.trans (hb24.mono HBW.out.size))
  clear hrow4 hb5 hb24 h4 hcl hsl HAP HB4 HAL HBW HRR
  go_wp2_with fail
  refine HW.out.mono ?_
  rintro e w5 ⟨rfl, o5, hd5, hs5⟩
  have HD5 := Lib.hid hd5
  have HS5 := Lib.hid hs5
  clear hd5 hs5
  go_wp2_with fail
  go_ret
  exact ⟨rfl, o5, HD5.out, (Step.of_below o HBX.out).trans HS5.out⟩

set_option maxRecDepth 100000 in
set_option maxHeartbeats 1000000 in
theorem keep_long (g B N : Nat) (o : Tags) (M : Files) (i t : Nat) (a : Option Addr) (n c : Nat) (w : World) (hl : Liv w B o g M N) (hlen : 262144 < n) :
    Calls Try.prog 8 #[.pointer (some ⟨g, 0, none⟩), .agg #[.int .u64 (i : Int), .int .u64 (t : Int), .slice a n c]] w fun e w' => e = .returned (.int .i64 3) ∧ Below w.heap.size w w' := by
  have hb1 : Below w.heap.size w (w.alloc (.cells #[.int .u64 (i : Int), .int .u64 (t : Int), .slice a n c] 27)) := (Below.refl _ _).alloc (Nat.le_refl _) _
  have HNO := Lib.hid (isNone_live (hl.disk.below hb1))
  have HB1 := Lib.hid hb1
  clear hl hb1
  go_enter Try.func8, Try.ntmps8
  go_wp2_with fail
  refine HNO.out.mono ?_
  rintro e w1 ⟨rfl, rfl⟩
  clear HNO
  go_wp2_with fail
  go_ret
  exact ⟨rfl, HB1.out⟩

set_option maxRecDepth 100000 in
set_option maxHeartbeats 1000000 in
theorem keep_no (x : Value) (i t : Nat) (a : Option Addr) (n c : Nat) (w : World) (hl : NoDisk w x) :
    Calls Try.prog 8 #[x, .agg #[.int .u64 (i : Int), .int .u64 (t : Int), .slice a n c]] w fun e w' => e = .returned (.int .i64 1) ∧ Below w.heap.size w w' := by
  have hb1 : Below w.heap.size w (w.alloc (.cells #[.int .u64 (i : Int), .int .u64 (t : Int), .slice a n c] 27)) := (Below.refl _ _).alloc (Nat.le_refl _) _
  have HNO := Lib.hid (isNone_no (hl.below hb1))
  have HB1 := Lib.hid hb1
  clear hl hb1
  go_enter Try.func8, Try.ntmps8
  go_wp2_with fail
  refine HNO.out.mono ?_
  rintro e w1 ⟨rfl, rfl⟩
  clear HNO
  go_wp2_with fail
  go_ret
  exact ⟨rfl, HB1.out⟩

end Go.Proofs.Ytaljfpkgancidaa
