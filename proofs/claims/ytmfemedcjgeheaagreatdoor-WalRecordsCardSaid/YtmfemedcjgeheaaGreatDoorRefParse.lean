/- The reference's Parse, by its contract. -/
import Derived.Test.YtmfemedcjgeheaaGreatDoorParse10
import Derived.Test.YtmfemedcjgeheaaGreatDoorRefFirst
import Derived.Test.YtmfemedcjgeheaaGreatDoorRefRec
namespace Go.Proofs.YtmfemedcjgeheaaGreatDoor
open Go.RowKit Go.Maps Dsk Wl

theorem rec_same {bs : List Int} {n k t j m i : Nat} (hr : ∀ x ∈ bs, 0 ≤ x ∧ x ≤ 255) (h1 : Num.dec 10 0 0 bs = some (n, k)) (h2 : Num.dec 10 0 0 (bs.drop k) = some (t, j)) (h3 : Num.dec 10 0 0 (bs.drop (k + j)) = some (m, i)) (hok : (Ent.mk n t ((bs.drop (k + j + i)).take m)).ok) :
    parseOf bs = if recOf ⟨n, t, (bs.drop (k + j + i)).take m⟩ = bs then some ⟨n, t, (bs.drop (k + j + i)).take m⟩ else none := by
  split
  · rename_i h
    have := parse_rec hok
    rwa [h] at this
  · rename_i h
    by_cases hc : m ≤ 2000 ∧ k + j + i + m = bs.length ∧ n ≠ 0
    · have htk : (bs.drop (k + j + i)).take m = bs.drop (k + j + i) := List.take_of_length_le (by rw [List.length_drop]; omega)
      have hp : parseOf bs = some ⟨n, t, bs.drop (k + j + i)⟩ := by simp only [parseOf, h1, h2, h3]; rw [if_pos hc]
      rw [htk] at h
      exact absurd (parse_is hr hp).2 h
    · exact parse_bad h1 h2 h3 hc

set_option maxRecDepth 100000 in
set_option maxHeartbeats 2000000 in
theorem refParse_any (a : Option Addr) (len cap : Nat) (bs : List Int) (w : World) (hz : len = bs.length) (hp : Reads w a bs) (hl : len ≤ 1000000) (hcap : len ≤ cap) (hcm : cap ≤ 9223372036854775807) :
    Calls Tryz.prog 30 #[.slice a len cap] w fun r w' => TellsEnt w w' r (parseOf bs) := by
  subst hz
  have hw0 : Below w.heap.size w ((w.alloc (.cells #[.int .u64 0, .int .u64 0, .slice none 0 0] 55)).alloc (.cells #[.int .u64 0, .int .u64 0, .slice none 0 0] 55)) := ((Below.refl _ _).alloc (Nat.le_refl _) _).alloc (by simp) _
  have hb0 : ((w.alloc (.cells #[.int .u64 0, .int .u64 0, .slice none 0 0] 55)).alloc (.cells #[.int .u64 0, .int .u64 0, .slice none 0 0] 55)).heap[w.heap.size]? = some (.cells #[.int .u64 0, .int .u64 0, .slice none 0 0] 55 (0, 0)) := by
    rw [(((Below.refl _ _).alloc (Nat.le_refl _) _ : Below (w.alloc (.cells #[.int .u64 0, .int .u64 0, .slice none 0 0] 55)).heap.size _ _)).block w.heap.size (by simp)]
    exact heap_alloc_new _ _
  have hy0 : ((w.alloc (.cells #[.int .u64 0, .int .u64 0, .slice none 0 0] 55)).alloc (.cells #[.int .u64 0, .int .u64 0, .slice none 0 0] 55)).heap[w.heap.size + 1]? = some (.cells #[.int .u64 0, .int .u64 0, .slice none 0 0] 55 (0, 0)) := by
    have := heap_alloc_new (w.alloc (.cells #[.int .u64 0, .int .u64 0, .slice none 0 0] 55)) (.cells #[.int .u64 0, .int .u64 0, .slice none 0 0] 55)
    simpa using this
  have HT := Lib.hid (fun (W : World) (h : Below w.heap.size w W) (p : Nat) (hle : p ≤ bs.length) => refTake_any a bs.length cap p bs W (hp.below h) rfl hl hle hcap hcm)
  have HTT := Lib.hid (fun (W : World) (h : Below w.heap.size w W) (p : Nat) (hle : p ≤ bs.length) => refTakeText_any a bs.length cap p bs W (hp.below h) rfl hl hle hcap hcm)
  have hlt := fun (p : Nat) (n j : Nat) (h : Num.dec 10 0 0 (bs.drop p) = some (n, j)) => Num.dec_lt 10 0 0 (bs.drop p) n j (by omega) (by simp) (fun x hx => hp.hr x (List.mem_of_mem_drop hx)) h
  have HLT := Lib.hid hlt
  have HR := Lib.hid hp.hr
  have HP0 := Lib.hid hp
  have HBX0 := Lib.hid hb0
  have HBY0 := Lib.hid hy0
  have HB0 := Lib.hid hw0
  clear hp hlt hb0 hy0 hw0
  go_enter Tryz.func30, Tryz.ntmps30
  go_wp2_with fail
  refine (HT.out _ HB0.out 0 (Nat.zero_le _)).mono ?_
  rw [List.drop_zero]
  intro r w1 ht
  cases h1 : Num.dec 10 0 0 bs with
  | none =>
    rw [h1] at ht
    obtain ⟨rfl, hb⟩ := ht
    have HE := Lib.hid (show parseOf bs = none by simp only [parseOf, h1])
    have HBX := Lib.hid ((hb.block w.heap.size (lt_of_block HBX0.out)).trans HBX0.out)
    have HBY := Lib.hid ((hb.block (w.heap.size + 1) (lt_of_block HBY0.out)).trans HBY0.out)
    have HB := Lib.hid (HB0.out.trans (hb.mono HB0.out.size))
    clear h1 hb
    obtain ⟨f0, f1, f2, c0, c1, c2⟩ := zbox HBX.out
    obtain ⟨-, -, -, k0, k1, k2⟩ := zbox HBY.out
    go_wp2
    refine bodyPost_ret (v := .tuple #[.agg #[.int .u64 0, .int .u64 0, .slice none 0 0], .int .i64 4]) ?_ rfl ?_
    · have hx := three_cells (x := .int .u64 0) (y := .int .u64 0) (z := .slice none 0 0) HBX.out
      generalize ((w1.setCell ⟨w.heap.size, 0, none⟩ (.int .u64 0)).setCell ⟨w.heap.size, 1, none⟩ (.int .u64 0)).setCell ⟨w.heap.size, 2, none⟩ (.slice none 0 0) = W at *
      obtain ⟨-, -, -, d0, d1, d2⟩ := zbox hx
      simp [results, Tryz.results30, go_sem, d0, d1, d2]
    · rw [HE.out]
      exact ⟨rfl, three_below HB.out (Nat.le_refl _)⟩
  | some nk =>
    obtain ⟨n, k⟩ := nk
    rw [h1] at ht
    obtain ⟨rfl, hb⟩ := ht
    have H1 := Lib.hid h1
    obtain ⟨hn, hk0, hk⟩ := HLT.out 0 n k (by rw [List.drop_zero]; exact h1)
    have hkl : k ≤ bs.length := by simpa using hk
    have HBX1 := Lib.hid ((hb.block w.heap.size (lt_of_block HBX0.out)).trans HBX0.out)
    have HBY1 := Lib.hid ((hb.block (w.heap.size + 1) (lt_of_block HBY0.out)).trans HBY0.out)
    have HB1 := Lib.hid (HB0.out.trans (hb.mono HB0.out.size))
    have HN := Lib.hid hn
    clear h1 hb hk0 hk hn HBX0 HBY0
    rw [show (((0 : Nat) : Int) + (k : Int)) = ((k : Nat) : Int) by omega]
    go_wp2_with fail
    refine (HT.out _ HB1.out k hkl).mono ?_
    intro r w2 ht
    cases h2 : Num.dec 10 0 0 (bs.drop k) with
    | none =>
      rw [h2] at ht
      obtain ⟨rfl, hb⟩ := ht
      have HE := Lib.hid (show parseOf bs = none by simp only [parseOf, H1.out, h2])
      have HBX := Lib.hid ((hb.block w.heap.size (lt_of_block HBX1.out)).trans HBX1.out)
      have HBY := Lib.hid ((hb.block (w.heap.size + 1) (lt_of_block HBY1.out)).trans HBY1.out)
      have HB := Lib.hid (HB1.out.trans (hb.mono HB1.out.size))
      clear h2 hb
      obtain ⟨f0, f1, f2, c0, c1, c2⟩ := zbox HBX.out
      obtain ⟨-, -, -, k0, k1, k2⟩ := zbox HBY.out
      go_wp2
      refine bodyPost_ret (v := .tuple #[.agg #[.int .u64 0, .int .u64 0, .slice none 0 0], .int .i64 4]) ?_ rfl ?_
      · have hx := three_cells (x := .int .u64 0) (y := .int .u64 0) (z := .slice none 0 0) HBX.out
        generalize ((w2.setCell ⟨w.heap.size, 0, none⟩ (.int .u64 0)).setCell ⟨w.heap.size, 1, none⟩ (.int .u64 0)).setCell ⟨w.heap.size, 2, none⟩ (.slice none 0 0) = W at *
        obtain ⟨-, -, -, d0, d1, d2⟩ := zbox hx
        simp [results, Tryz.results30, go_sem, d0, d1, d2]
      · rw [HE.out]
        exact ⟨rfl, three_below HB.out (Nat.le_refl _)⟩
    | some tj =>
      obtain ⟨t, j⟩ := tj
      rw [h2] at ht
      obtain ⟨rfl, hb⟩ := ht
      have H2 := Lib.hid h2
      obtain ⟨hn, hk0, hk⟩ := HLT.out k t j h2
      have hkj : k + j ≤ bs.length := by rw [List.length_drop] at hk; omega
      have HBX2 := Lib.hid ((hb.block w.heap.size (lt_of_block HBX1.out)).trans HBX1.out)
      have HBY2 := Lib.hid ((hb.block (w.heap.size + 1) (lt_of_block HBY1.out)).trans HBY1.out)
      have HB2 := Lib.hid (HB1.out.trans (hb.mono HB1.out.size))
      have HN2 := Lib.hid hn
      clear h2 hb hk0 hk hn HBX1 HBY1
      rw [show ((k : Int) + (j : Int)) = ((k + j : Nat) : Int) by omega]
      go_wp2_with fail
      refine (HTT.out _ HB2.out (k + j) hkj).mono ?_
      intro r w3 ht
      cases h3 : Num.dec 10 0 0 (bs.drop (k + j)) with
      | none =>
        rw [h3] at ht
        obtain ⟨rfl, hb⟩ := ht
        have HE := Lib.hid (show parseOf bs = none by simp only [parseOf, H1.out, H2.out, h3])
        have HBX := Lib.hid ((hb.block w.heap.size (lt_of_block HBX2.out)).trans HBX2.out)
        have HBY := Lib.hid ((hb.block (w.heap.size + 1) (lt_of_block HBY2.out)).trans HBY2.out)
        have HB := Lib.hid (HB2.out.trans (hb.mono HB2.out.size))
        clear h3 hb
        obtain ⟨f0, f1, f2, c0, c1, c2⟩ := zbox HBX.out
        obtain ⟨-, -, -, k0, k1, k2⟩ := zbox HBY.out
        go_wp2
        refine bodyPost_ret (v := .tuple #[.agg #[.int .u64 0, .int .u64 0, .slice none 0 0], .int .i64 4]) ?_ rfl ?_
        · have hx := three_cells (x := .int .u64 0) (y := .int .u64 0) (z := .slice none 0 0) HBX.out
          generalize ((w3.setCell ⟨w.heap.size, 0, none⟩ (.int .u64 0)).setCell ⟨w.heap.size, 1, none⟩ (.int .u64 0)).setCell ⟨w.heap.size, 2, none⟩ (.slice none 0 0) = W at *
          obtain ⟨-, -, -, d0, d1, d2⟩ := zbox hx
          simp [results, Tryz.results30, go_sem, d0, d1, d2]
        · rw [HE.out]
          exact ⟨rfl, three_below HB.out (Nat.le_refl _)⟩
      | some mi =>
        obtain ⟨m, i⟩ := mi
        rw [h3] at ht
        obtain ⟨hb, hr⟩ := ht
        have H3 := Lib.hid h3
        have HBX := Lib.hid ((hb.block w.heap.size (lt_of_block HBX2.out)).trans HBX2.out)
        have HBY := Lib.hid ((hb.block (w.heap.size + 1) (lt_of_block HBY2.out)).trans HBY2.out)
        have HB := Lib.hid (HB2.out.trans (hb.mono HB2.out.size))
        clear h3 hb HBX2 HBY2
        by_cases hfit : m ≤ 4096 ∧ k + j + i + m ≤ bs.length
        · rw [if_pos hfit] at hr
          subst hr
          obtain ⟨hm, hf⟩ := hfit
          have hdl : ((bs.drop (k + j + i)).take m).length = m := by rw [List.length_take, List.length_drop]; omega
          have hrr : ∀ x ∈ (bs.drop (k + j + i)).take m, 0 ≤ x ∧ x ≤ 255 := fun x hx => HR.out x (List.mem_of_mem_drop (List.mem_of_mem_take hx))
          rw [show (((k + j : Nat) : Int) + (i : Int) + (m : Int)) = ((k + j + i + m : Nat) : Int) by omega]
          have HP := Lib.hid (fun h : ¬ (m ≤ 2000 ∧ k + j + i + m = bs.length ∧ n ≠ 0) => parse_bad H1.out H2.out H3.out h)
          have HRS := Lib.hid (fun h => rec_same HR.out H1.out H2.out H3.out h)
          have HCV := Lib.hid (Body.conv w3 ((bs.drop (k + j + i)).take m) hrr (by omega))
          have hcv := Lib.run_convert_string_bytes (P := Tryz.prog) w3 9 39 5 (strOfNums ((bs.drop (k + j + i)).take m)) Tryz.underlying9 Tryz.underlying39 Tryz.underlying5
          rw [strOfNums_size] at hcv
          have hbw : Below w3.heap.size w3 (Lib.bytesWorld w3 5 (strOfNums ((bs.drop (k + j + i)).take m))) := Lib.bytesWorld_below _ _ _
          obtain ⟨CC, hCC⟩ : ∃ CC, CC = grownCap w3 ((bs.drop (k + j + i)).take m).length 0 5 := ⟨_, rfl⟩
          rw [← hCC] at hcv HCV
          generalize hBD : (bs.drop (k + j + i)).take m = BD at *
          generalize hS : strOfNums BD = S at *
          generalize hWB : Lib.bytesWorld w3 5 S = WB at *
          obtain ⟨x, hx⟩ : ∃ x, x = Ent.mk n t BD := ⟨_, rfl⟩
          have HX := Lib.hid hx
          have hxl : x.body.length = m := by rw [hx]; exact hdl
          have hxi : x.ix = n := by rw [hx]
          have hxt : x.term = t := by rw [hx]
          have hxb : x.body = BD := by rw [hx]
          -- the box of the entry
          have hbz : Below WB.heap.size WB (WB.alloc (.cells #[.int .u64 (n : Int), .int .u64 (t : Int), .slice (some ⟨w3.heap.size, 0, none⟩) m CC] 55)) := (Below.refl _ _).alloc (Nat.le_refl _) _
          have hb := hbw.trans (hbz.mono hbw.size)
          have HBZ := Lib.hid (heap_alloc_new WB (.cells #[.int .u64 (n : Int), .int .u64 (t : Int), .slice (some ⟨w3.heap.size, 0, none⟩) m CC] 55))
          have HRE := Lib.hid (show Reads (WB.alloc (.cells #[.int .u64 (n : Int), .int .u64 (t : Int), .slice (some ⟨w3.heap.size, 0, none⟩) m CC] 55)) (some ⟨w3.heap.size, 0, none⟩) x.body from by
            rw [hxb]; exact (HCV.out.reads).1.below hbz)
          have HBC := Lib.hid (HCV.out.below hbz)
          have HBX4 := Lib.hid ((hb.block w.heap.size (lt_of_block HBX.out)).trans HBX.out)
          have HBY4 := Lib.hid ((hb.block (w.heap.size + 1) (lt_of_block HBY.out)).trans HBY.out)
          have HB4 := Lib.hid (HB.out.trans (hb.mono HB.out.size))
          have HL3 := Lib.hid (show w.heap.size < w3.heap.size from lt_of_block HBX.out)
          have HW3B := Lib.hid hbw.size
          have HDL := Lib.hid hdl
          have HLTN := HN
          have HLTT := HN2
          clear hCC hBD hS hb hx hxb hbw hbz HCV HBX HBY HB HLT HT HTT
          rw [hdl] at hcv
          clear hWB hdl
          generalize ((k + j + i + m : Nat) : Int) = Q at *
          go_wp2_with fail
          generalize hW4 : WB.alloc (.cells #[.int .u64 (n : Int), .int .u64 (t : Int), .slice (some ⟨w3.heap.size, 0, none⟩) m CC] 55) = w4 at *
          clear hW4 hcv
          by_cases hn0 : n = 0
          · have HE := Lib.hid (HP.out fun h => h.2.2 hn0)
            have HZR := Lib.hid (refRecord_zero (t : Int) (.slice (some ⟨w3.heap.size, 0, none⟩) m CC) w4)
            have hnz : (n : Int) = 0 := by omega
            rw [hnz]
            refine HZR.out.mono ?_
            rintro r w5 ⟨rfl, hb⟩
            have HBX := Lib.hid ((hb.block w.heap.size (lt_of_block HBX4.out)).trans HBX4.out)
            have HBY := Lib.hid ((hb.block (w.heap.size + 1) (lt_of_block HBY4.out)).trans HBY4.out)
            have HB := Lib.hid (HB4.out.trans (hb.mono HB4.out.size))
            clear hb HP HRS HBX4 HBY4 HZR hrr
            obtain ⟨f0, f1, f2, c0, c1, c2⟩ := zbox HBX.out
            obtain ⟨-, -, -, k0, k1, k2⟩ := zbox HBY.out
            go_wp2
            refine bodyPost_ret (v := .tuple #[.agg #[.int .u64 0, .int .u64 0, .slice none 0 0], .int .i64 4]) ?_ rfl ?_
            · have hx := three_cells (x := .int .u64 0) (y := .int .u64 0) (z := .slice none 0 0) HBX.out
              generalize ((w5.setCell ⟨w.heap.size, 0, none⟩ (.int .u64 0)).setCell ⟨w.heap.size, 1, none⟩ (.int .u64 0)).setCell ⟨w.heap.size, 2, none⟩ (.slice none 0 0) = W at *
              obtain ⟨-, -, -, d0, d1, d2⟩ := zbox hx
              simp [results, Tryz.results30, go_sem, d0, d1, d2]
            · rw [HE.out]
              exact ⟨rfl, three_below HB.out (Nat.le_refl _)⟩
          · by_cases hm2 : m ≤ 2000
            · have hok : x.ok := ⟨by omega, by rw [hxi]; exact HLTN.out, by rw [hxt]; exact HLTT.out, by omega, by rw [HX.out]; exact hrr⟩
              have HPS := Lib.hid (HRS.out (by rw [← HX.out]; exact hok))
              rw [← HX.out] at HPS
              have HRA := Lib.hid (refRecord_any x (some ⟨w3.heap.size, 0, none⟩) CC w4 hok HRE.out)
              rw [hxl, hxi, hxt] at HRA
              refine HRA.out.mono ?_
              rintro r w5 ⟨g5, c5, rfl, hr5, hb⟩
              have HBX := Lib.hid ((hb.block w.heap.size (lt_of_block HBX4.out)).trans HBX4.out)
              have HBY := Lib.hid ((hb.block (w.heap.size + 1) (lt_of_block HBY4.out)).trans HBY4.out)
              have HB := Lib.hid (HB4.out.trans (hb.mono HB4.out.size))
              have hcr := hr5.text (Below.refl _ _)
              have hcb := (HP0.out.below HB.out).text bs.length cap rfl
              have HEQ := Lib.hid (str_eq (rec_range hok) HR.out)
              have HZ5 := Lib.hid ((hb.block _ (lt_of_block HBZ.out)).trans HBZ.out)
              have HC5 := Lib.hid (HBC.out.below hb)
              clear hb HP HRS HBX4 HBY4 HRA hrr hr5 HP0
              by_cases hsm : recOf x = bs
              · rw [if_pos hsm] at HPS
                have heq : ((strOfNums (recOf x)).toList == (strOfNums bs).toList) = true := HEQ.out.trans (decide_eq_true hsm)
                clear hsm
                generalize strOfNums (recOf x) = S1 at *
                generalize strOfNums bs = S2 at *
                obtain ⟨f0, f1, f2, c0, c1, c2⟩ := zbox HBX.out
                have k0 : w5.cell? ⟨WB.heap.size, 0, none⟩ = some (.int .u64 (n : Int)) := by rw [cell_of_row _ _ 0 _ _ _ HZ5.out]; rfl
                have k1 : w5.cell? ⟨WB.heap.size, 1, none⟩ = some (.int .u64 (t : Int)) := by rw [cell_of_row _ _ 1 _ _ _ HZ5.out]; rfl
                have k2 : w5.cell? ⟨WB.heap.size, 2, none⟩ = some (.slice (some ⟨w3.heap.size, 0, none⟩) m CC) := by rw [cell_of_row _ _ 2 _ _ _ HZ5.out]; rfl
                go_wp2
                have hlt := HL3.out
                refine bodyPost_ret (v := .tuple #[.agg #[.int .u64 (n : Int), .int .u64 (t : Int), .slice (some ⟨w3.heap.size, 0, none⟩) m CC], .int .i64 0]) ?_ rfl ?_
                · have hx := three_cells (x := .int .u64 (n : Int)) (y := .int .u64 (t : Int)) (z := .slice (some ⟨w3.heap.size, 0, none⟩) m CC) HBX.out
                  generalize ((w5.setCell ⟨w.heap.size, 0, none⟩ (.int .u64 (n : Int))).setCell ⟨w.heap.size, 1, none⟩ (.int .u64 (t : Int))).setCell ⟨w.heap.size, 2, none⟩ (.slice (some ⟨w3.heap.size, 0, none⟩) m CC) = W at *
                  have d0 : W.cell? ⟨w.heap.size, 0, none⟩ = some (.int .u64 (n : Int)) := by rw [cell_of_row _ _ 0 _ _ _ hx]; rfl
                  have d1 : W.cell? ⟨w.heap.size, 1, none⟩ = some (.int .u64 (t : Int)) := by rw [cell_of_row _ _ 1 _ _ _ hx]; rfl
                  have d2 : W.cell? ⟨w.heap.size, 2, none⟩ = some (.slice (some ⟨w3.heap.size, 0, none⟩) m CC) := by rw [cell_of_row _ _ 2 _ _ _ hx]; rfl
                  simp [results, Tryz.results30, go_sem, d0, d1, d2]
                · rw [HPS.out]
                  refine ⟨three_below HB.out (Nat.le_refl _), some ⟨w3.heap.size, 0, none⟩, CC, by rw [hxl, hxi, hxt], ?_⟩
                  have hcc := HC5.out
                  rw [show BD = x.body by rw [HX.out]] at hcc
                  exact (hcc.keep fun q _ _ hq _ _ => three_other (by omega)).less (by omega)
              · rw [if_neg hsm] at HPS
                have HE := HPS
                have hne : ((strOfNums (recOf x)).toList == (strOfNums bs).toList) = false := HEQ.out.trans (decide_eq_false hsm)
                generalize strOfNums (recOf x) = S1 at *
                generalize strOfNums bs = S2 at *
                obtain ⟨f0, f1, f2, c0, c1, c2⟩ := zbox HBX.out
                obtain ⟨-, -, -, k0, k1, k2⟩ := zbox HBY.out
                go_wp2
                refine bodyPost_ret (v := .tuple #[.agg #[.int .u64 0, .int .u64 0, .slice none 0 0], .int .i64 4]) ?_ rfl ?_
                · have hx := three_cells (x := .int .u64 0) (y := .int .u64 0) (z := .slice none 0 0) HBX.out
                  generalize ((w5.setCell ⟨w.heap.size, 0, none⟩ (.int .u64 0)).setCell ⟨w.heap.size, 1, none⟩ (.int .u64 0)).setCell ⟨w.heap.size, 2, none⟩ (.slice none 0 0) = W at *
                  obtain ⟨-, -, -, d0, d1, d2⟩ := zbox hx
                  simp [results, Tryz.results30, go_sem, d0, d1, d2]
                · rw [HE.out]
                  exact ⟨rfl, three_below HB.out (Nat.le_refl _)⟩
            · have HE := Lib.hid (HP.out fun h => hm2 h.1)
              have HZR := Lib.hid (refRecord_long (n : Int) (t : Int) (some ⟨w3.heap.size, 0, none⟩) m CC w4 (by omega) (by omega))
              refine HZR.out.mono ?_
              rintro r w5 ⟨rfl, hb⟩
              have HBX := Lib.hid ((hb.block w.heap.size (lt_of_block HBX4.out)).trans HBX4.out)
              have HBY := Lib.hid ((hb.block (w.heap.size + 1) (lt_of_block HBY4.out)).trans HBY4.out)
              have HB := Lib.hid (HB4.out.trans (hb.mono HB4.out.size))
              clear hb HP HRS HBX4 HBY4 HZR hrr
              obtain ⟨f0, f1, f2, c0, c1, c2⟩ := zbox HBX.out
              obtain ⟨-, -, -, k0, k1, k2⟩ := zbox HBY.out
              go_wp2
              refine bodyPost_ret (v := .tuple #[.agg #[.int .u64 0, .int .u64 0, .slice none 0 0], .int .i64 4]) ?_ rfl ?_
              · have hx := three_cells (x := .int .u64 0) (y := .int .u64 0) (z := .slice none 0 0) HBX.out
                generalize ((w5.setCell ⟨w.heap.size, 0, none⟩ (.int .u64 0)).setCell ⟨w.heap.size, 1, none⟩ (.int .u64 0)).setCell ⟨w.heap.size, 2, none⟩ (.slice none 0 0) = W at *
                obtain ⟨-, -, -, d0, d1, d2⟩ := zbox hx
                simp [results, Tryz.results30, go_sem, d0, d1, d2]
              · rw [HE.out]
                exact ⟨rfl, three_below HB.out (Nat.le_refl _)⟩
        · rw [if_neg hfit] at hr
          subst hr
          have HE := Lib.hid (parse_bad H1.out H2.out H3.out (fun h => hfit ⟨by omega, by omega⟩))
          obtain ⟨f0, f1, f2, c0, c1, c2⟩ := zbox HBX.out
          obtain ⟨-, -, -, k0, k1, k2⟩ := zbox HBY.out
          go_wp2
          refine bodyPost_ret (v := .tuple #[.agg #[.int .u64 0, .int .u64 0, .slice none 0 0], .int .i64 4]) ?_ rfl ?_
          · have hx := three_cells (x := .int .u64 0) (y := .int .u64 0) (z := .slice none 0 0) HBX.out
            generalize ((w3.setCell ⟨w.heap.size, 0, none⟩ (.int .u64 0)).setCell ⟨w.heap.size, 1, none⟩ (.int .u64 0)).setCell ⟨w.heap.size, 2, none⟩ (.slice none 0 0) = W at *
            obtain ⟨-, -, -, d0, d1, d2⟩ := zbox hx
            simp [results, Tryz.results30, go_sem, d0, d1, d2]
          · rw [HE.out]
            exact ⟨rfl, three_below HB.out (Nat.le_refl _)⟩

end Go.Proofs.YtmfemedcjgeheaaGreatDoor
