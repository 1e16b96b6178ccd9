/- Record, by its contract. Same of two entries, the program's and the reference's. -/
import Derived.Test.YtmfemedcjgeheaaGreatDoorWalRow
import Derived.Test.YtmfemedcjgeheaaGreatDoorFramePut
import Derived.Test.YtmfemedcjgeheaaGreatDoorPutA
import Derived.Test.YtmfemedcjgeheaaGreatDoorReg
namespace Go.Proofs.YtmfemedcjgeheaaGreatDoor
open Go.RowKit Go.Maps Dsk Wl

set_option maxRecDepth 100000 in
set_option maxHeartbeats 1000000 in
theorem record_zero (t : Int) (x : Value) (w : World) : Calls Tryz.prog 27 #[.agg #[.int .u64 0, .int .u64 t, x]] w fun r w' => r = .returned (.tuple #[.slice none 0 0, .int .i64 2]) ∧ Below w.heap.size w w' := by
  go_enter Tryz.func27, Tryz.ntmps27
  go_wp2
  go_ret2
  exact ⟨rfl, (Below.refl _ _).alloc (Nat.le_refl _) _⟩

set_option maxRecDepth 100000 in
set_option maxHeartbeats 1000000 in
theorem record_long (n t : Int) (a : Option Addr) (len c : Nat) (w : World) (hn : n ≠ 0) (hl : 2000 < len) : Calls Tryz.prog 27 #[.agg #[.int .u64 n, .int .u64 t, .slice a len c]] w fun r w' => r = .returned (.tuple #[.slice none 0 0, .int .i64 3]) ∧ Below w.heap.size w w' := by
  have hd : (n == 0) = false := by simpa using hn
  have hd2 : decide ((2000 : Int) < (len : Int)) = true := by simp; omega
  go_enter Tryz.func27, Tryz.ntmps27
  go_wp2
  go_ret2
  exact ⟨rfl, (Below.refl _ _).alloc (Nat.le_refl _) _⟩

set_option maxRecDepth 100000 in
set_option maxHeartbeats 4000000 in
theorem record_any (e : Ent) (a : Option Addr) (c : Nat) (w : World) (he : e.ok) (hp : Reads w a e.body) :
    Calls Tryz.prog 27 #[.agg #[.int .u64 (e.ix : Int), .int .u64 (e.term : Int), .slice a e.body.length c]] w fun r w' => ∃ g c', r = .returned (.tuple #[.slice (some ⟨g, 0, none⟩) (recOf e).length c', .int .i64 0]) ∧ Row w' w.heap.size (recOf e) (.slice (some ⟨g, 0, none⟩) (recOf e).length c') ∧ Below w.heap.size w w' := by
  have hd : ((e.ix : Int) == 0) = false := by rw [beq_eq_false_iff_ne]; have := he.1; omega
  have hd2 : decide ((2000 : Int) < (e.body.length : Int)) = false := by have := he.2.2.2.1; simp; omega
  have hw1 : Below w.heap.size w (w.alloc (.cells #[.int .u64 (e.ix : Int), .int .u64 (e.term : Int), .slice a e.body.length c] 55)) := (Below.refl _ _).alloc (Nat.le_refl _) _
  have hb1 : (w.alloc (.cells #[.int .u64 (e.ix : Int), .int .u64 (e.term : Int), .slice a e.body.length c] 55)).heap[w.heap.size]? = some (.cells #[.int .u64 (e.ix : Int), .int .u64 (e.term : Int), .slice a e.body.length c] 55 (0, 0)) := heap_alloc_new _ _
  have hcv := (hp.below hw1).text e.body.length c rfl
  have hsz := strOfNums_size e.body
  have hbl := bl_str he.2.2.2.2
  have hbn := he.2.2.2.1
  have hlen := rec_len he
  generalize hS : strOfNums e.body = S at *
  have HN := Lib.hid he.2.1
  have HT := Lib.hid he.2.2.1
  have HBN := Lib.hid hbn
  have HB1 := Lib.hid hb1
  have HW1 := Lib.hid hw1
  have HLEN := Lib.hid hlen
  have HPT := Lib.hid (fun W => putText_any S (by omega) W)
  rw [hbl, hsz] at HPT
  obtain ⟨tt, htt⟩ : ∃ tt, tt = Num.put e.body.length ++ e.body := ⟨_, rfl⟩
  rw [← htt] at HPT
  have hne : tt ≠ [] := by rw [htt]; exact fun h => Num.enc_ne 9 e.body.length (List.append_eq_nil_iff.1 h).1
  have HTT := Lib.hid htt
  have HNE := Lib.hid hne
  clear htt hne hS hbn hlen he hsz hbl hp hb1 hw1
  go_enter Tryz.func27, Tryz.ntmps27
  go_wp2_with fail
  refine (HPT.out _).mono ?_
  rintro r w2 ⟨v2, rfl, hr2, hb2⟩
  obtain ⟨g2, cap2, rfl, hg20, hg21, _, _, _⟩ := hr2.is HNE.out
  have hz12 := hb2.size
  have HEB := Lib.hid ((hb2.block w.heap.size (by simp)).trans HB1.out)
  have HC0 := Lib.hid (show ∀ W, Below w2.heap.size w2 W → W.cell? ⟨w.heap.size, 0, none⟩ = some (.int .u64 (e.ix : Int)) from fun W h => by
    rw [cell_of_row W w.heap.size 0 _ _ _ ((h.block w.heap.size (lt_of_block HEB.out)).trans HEB.out)]; rfl)
  have HC1 := Lib.hid (show ∀ W, Below w2.heap.size w2 W → W.cell? ⟨w.heap.size, 1, none⟩ = some (.int .u64 (e.term : Int)) from fun W h => by
    rw [cell_of_row W w.heap.size 1 _ _ _ ((h.block w.heap.size (lt_of_block HEB.out)).trans HEB.out)]; rfl)
  have HR2 := Lib.hid hr2
  have B2 := Lib.hid (HW1.out.trans (hb2.mono HW1.out.size))
  clear hr2 hb2 hg21
  go_wp2_with fail
  refine wp_region_held_drew (S := fun W => Below w2.heap.size w2 W) (by kernel_rfl) (Below.refl _ _).drew (fun hHeld => ?_)
  refine wpAnyH_take (i := 0) (oi := ?_) (v := ?_) ?_ (by kernel_rfl) (by kernel_rfl) (by kernel_rfl) ?_ (Or.inl ⟨?_, ?_⟩) (by assumption) ?_
  rotate_left 2
  focus (simp only [List.getElem?_toArray, List.getElem?_cons_zero]; rfl)
  focus exact fun _ _ _ h => h
  focus rfl
  focus (intro W hS; (try dsimp only at hS); go_simp; (try with_reducible rfl))
  try simp only [Act.put]
  try simp only [List.setIfInBounds_toArray]
  try simp only [List.set_cons_succ]
  try simp only [List.set_cons_zero]
  refine wpAnyH_take (i := 1) (oi := ?_) (v := ?_) ?_ (by kernel_rfl) (by kernel_rfl) (by kernel_rfl) ?_ (Or.inl ⟨?_, ?_⟩) (by assumption) ?_
  rotate_left 2
  focus (simp only [List.getElem?_toArray, List.getElem?_cons_succ, List.getElem?_cons_zero]; rfl)
  focus exact fun _ _ _ h => h
  focus rfl
  focus (intro W hS; (try dsimp only at hS); have q := HC0.out W hS; go_simp; (try with_reducible rfl))
  try simp only [Act.put]
  try simp only [List.setIfInBounds_toArray]
  try simp only [List.set_cons_succ]
  try simp only [List.set_cons_zero]
  refine wpAnyH_take (i := 3) (oi := ?_) (v := ?_) ?_ (by kernel_rfl) (by kernel_rfl) (by kernel_rfl) ?_ (Or.inl ⟨?_, ?_⟩) (by assumption) ?_
  rotate_left 2
  focus (simp only [List.getElem?_toArray, List.getElem?_cons_succ, List.getElem?_cons_zero]; rfl)
  focus exact fun _ _ _ h => h
  focus rfl
  focus (intro W hS; (try dsimp only at hS); go_simp; (try with_reducible rfl))
  try simp only [Act.put]
  try simp only [List.setIfInBounds_toArray]
  try simp only [List.set_cons_succ]
  try simp only [List.set_cons_zero]
  refine wpAnyH_take (i := 4) (oi := ?_) (v := ?_) ?_ (by kernel_rfl) (by kernel_rfl) (by kernel_rfl) ?_ (Or.inl ⟨?_, ?_⟩) (by assumption) ?_
  rotate_left 2
  focus (simp only [List.getElem?_toArray, List.getElem?_cons_succ, List.getElem?_cons_zero]; rfl)
  focus exact fun _ _ _ h => h
  focus rfl
  focus (intro W hS; (try dsimp only at hS); have q := HC1.out W hS; go_simp; (try with_reducible rfl))
  try simp only [Act.put]
  try simp only [List.setIfInBounds_toArray]
  try simp only [List.set_cons_succ]
  try simp only [List.set_cons_zero]
  refine wpAnyH_take (i := 6) (oi := ?_) (v := ?_) ?_ (by kernel_rfl) (by kernel_rfl) (by kernel_rfl) ?_ (Or.inl ⟨?_, ?_⟩) (by assumption) ?_
  rotate_left 2
  focus (simp only [List.getElem?_toArray, List.getElem?_cons_succ, List.getElem?_cons_zero]; rfl)
  focus exact fun _ _ _ h => h
  focus rfl
  focus (intro W hS; (try dsimp only at hS); go_simp; (try with_reducible rfl))
  try simp only [Act.put]
  try simp only [List.setIfInBounds_toArray]
  try simp only [List.set_cons_succ]
  try simp only [List.set_cons_zero]
  refine wpAnyH_ready (rs := [2]) (by kernel_rfl) (by simp) ?_
  refine AllReadyH.cons (o := ?_) ?_ (fun K hK => ?_) AllReadyH.nil
  rotate_left
  focus (simp only [List.getElem?_toArray, List.getElem?_cons_succ, List.getElem?_cons_zero]; rfl)
  rw [if_pos (by rfl)]
  go_simp
  refine (put_any e.ix HN.out _).mono ?_
  rintro r w3 ⟨v3, rfl, hr3, hb3⟩
  have h3 := (Below.refl w2.heap.size w2).drew.trans hb3
  obtain ⟨g3, cap3, rfl, _, _, _, _, _⟩ := hr3.is (Num.enc_ne 9 e.ix)
  have HR3 := Lib.hid hr3
  clear hr3 hb3
  go_wp2_with fail
  refine hK.out _ _ h3 (fun hHeld => ?_)
  clear hK K
  try simp only [Act.put]
  try simp only [List.setIfInBounds_toArray]
  try simp only [List.set_cons_succ]
  try simp only [List.set_cons_zero]
  clear hHeld
  refine wpAnyH_sharper (S' := fun W => Below w3.heap.size w3 W) (fun W h => h3.trans (h.mono h3.size)) _ _ _ _ ?_
  have hHeld := Below.refl w3.heap.size w3
  refine wpAnyH_ready (rs := [5]) (by kernel_rfl) (by simp) ?_
  refine AllReadyH.cons (o := ?_) ?_ (fun K hK => ?_) AllReadyH.nil
  rotate_left
  focus (simp only [List.getElem?_toArray, List.getElem?_cons_succ, List.getElem?_cons_zero]; rfl)
  rw [if_pos (by rfl)]
  go_simp
  refine (put_any e.term HT.out _).mono ?_
  rintro r w4 ⟨v4, rfl, hr4, h4⟩
  obtain ⟨g4, cap4, rfl, _, _, _, _, _⟩ := hr4.is (Num.enc_ne 9 e.term)
  have HR4 := Lib.hid hr4
  clear hr4
  go_wp2_with fail
  refine hK.out _ _ h4 (fun hHeld => ?_)
  clear hK K
  try simp only [Act.put]
  try simp only [List.setIfInBounds_toArray]
  try simp only [List.set_cons_succ]
  try simp only [List.set_cons_zero]
  clear hHeld
  refine wpAnyH_sharper (S' := fun W => Below w4.heap.size w4 W) (fun W h => h4.trans (h.mono h4.size)) _ _ _ _ ?_
  have hHeld := Below.refl w4.heap.size w4
  have hb5 : Below w4.heap.size w4 (w4.alloc (.cells #[.slice (some ⟨g3, 0, none⟩) (Num.put e.ix).length cap3, .slice (some ⟨g4, 0, none⟩) (Num.put e.term).length cap4, .slice (some ⟨g2, 0, none⟩) tt.length cap2] 39)) := (Below.refl _ _).alloc (Nat.le_refl _) _
  have h34 := h3.trans (h4.mono h3.size)
  have hP := Lib.hid (parts_three (w4.alloc (.cells #[.slice (some ⟨g3, 0, none⟩) (Num.put e.ix).length cap3, .slice (some ⟨g4, 0, none⟩) (Num.put e.term).length cap4, .slice (some ⟨g2, 0, none⟩) tt.length cap2] 39)) w4.heap.size 39
    (some ⟨g3, 0, none⟩) (some ⟨g4, 0, none⟩) (some ⟨g2, 0, none⟩) (Num.put e.ix) (Num.put e.term) tt cap3 cap4 cap2 (heap_alloc_new _ _) (fun h => by cases h) (fun h => by cases h) (fun h => by cases h)
    (fun ad h => by cases h; exact HR3.out.news (h4.trans (hb5.mono h4.size)) rfl) (fun ad h => by cases h; exact HR4.out.news hb5 rfl) (fun ad h => by cases h; exact HR2.out.news (h34.trans (hb5.mono h34.size)) rfl))
  have hcat : cat (fun k => if k = 0 then Num.put e.ix else if k = 1 then Num.put e.term else tt) 3 = recOf e := by simp [cat, recOf, HTT.out]
  have HJ := Lib.hid (join_any _ 3 3 _ _ _ _ hP.out (by omega) (by rw [hcat]; have := HLEN.out; omega))
  rw [hcat] at HJ
  have hk2 := h34.trans (hb5.mono h34.size)
  have h5 := hb5
  clear hP hcat HR3 HR4 HR2 HC0 HC1 hb5
  refine wpAnyH_ready (rs := [7]) (by kernel_rfl) (by simp) ?_
  refine AllReadyH.cons (o := ?_) ?_ (fun K hK => ?_) AllReadyH.nil
  rotate_left
  focus (simp only [List.getElem?_toArray, List.getElem?_cons_succ, List.getElem?_cons_zero]; rfl)
  rw [if_pos (by rfl)]
  go_simp
  refine hK.out _ _ h5 (fun hHeld => ?_)
  clear hK K
  try simp only [Act.put]
  try simp only [List.setIfInBounds_toArray]
  try simp only [List.set_cons_succ]
  try simp only [List.set_cons_zero]
  refine wpAnyH_ready (rs := [8]) (by kernel_rfl) (by simp) ?_
  refine AllReadyH.cons (o := ?_) ?_ (fun K hK => ?_) AllReadyH.nil
  rotate_left
  focus (simp only [List.getElem?_toArray, List.getElem?_cons_succ, List.getElem?_cons_zero]; rfl)
  rw [if_pos (by rfl)]
  go_simp
  refine HJ.out.mono ?_
  rintro r w6 ⟨g6, c6, rfl, hr6, h6⟩
  go_wp2_with fail
  refine hK.out _ _ (h5.trans (h6.mono h5.size)) (fun hHeld => ?_)
  clear hK K
  try simp only [Act.put]
  try simp only [List.setIfInBounds_toArray]
  try simp only [List.set_cons_succ]
  try simp only [List.set_cons_zero]
  refine wpAnyH_take (i := 9) (oi := ?_) (v := ?_) ?_ (by kernel_rfl) (by kernel_rfl) (by kernel_rfl) ?_ (Or.inl ⟨?_, ?_⟩) (by assumption) ?_
  rotate_left 2
  focus (simp only [List.getElem?_toArray, List.getElem?_cons_succ, List.getElem?_cons_zero]; rfl)
  focus exact fun _ _ _ h => h
  focus rfl
  focus (intro W hS; (try dsimp only at hS); go_simp; (try with_reducible rfl))
  try simp only [Act.put]
  try simp only [List.setIfInBounds_toArray]
  try simp only [List.set_cons_succ]
  try simp only [List.set_cons_zero]
  refine wpAnyH_take (i := 10) (oi := ?_) (v := ?_) ?_ (by kernel_rfl) (by kernel_rfl) (by kernel_rfl) ?_ (Or.inl ⟨?_, ?_⟩) (by assumption) ?_
  rotate_left 2
  focus (simp only [List.getElem?_toArray, List.getElem?_cons_succ, List.getElem?_cons_zero]; rfl)
  focus exact fun _ _ _ h => h
  focus rfl
  focus (intro W hS; (try dsimp only at hS); go_simp; (try with_reducible rfl))
  try simp only [Act.put]
  try simp only [List.setIfInBounds_toArray]
  try simp only [List.set_cons_succ]
  try simp only [List.set_cons_zero]
  refine wpAnyH_done (by kernel_rfl) ?_ _
  go_wp2
  go_ret2
  have hk6 := hk2.trans (h6.mono hk2.size)
  refine ⟨g6, c6, rfl, hr6.less ?_, B2.out.trans (hk6.mono B2.out.size)⟩
  exact Nat.le_trans B2.out.size hk2.size

end Go.Proofs.YtmfemedcjgeheaaGreatDoor

namespace Go.Proofs.YtmfemedcjgeheaaGreatDoor
open Go.RowKit Go.Maps Wl

def sameE (x y : Ent) : Bool := decide (x.ix = y.ix) && decide (x.term = y.term) && decide (x.body = y.body)
theorem sameE_iff {x y : Ent} : sameE x y = true ↔ x = y := by
  unfold sameE
  simp only [Bool.and_eq_true, decide_eq_true_eq]
  constructor
  · rintro ⟨⟨h1, h2⟩, h3⟩
    cases x; cases y
    simp_all
  · rintro rfl; simp

set_option maxRecDepth 100000 in
set_option maxHeartbeats 1000000 in
theorem same_ent (x y : Ent) (a b : Option Addr) (c d : Nat) (w : World) (hx : Reads w a x.body) (hy : Reads w b y.body) :
    Calls Tryz.prog 32 #[.agg #[.int .u64 (x.ix : Int), .int .u64 (x.term : Int), .slice a x.body.length c], .agg #[.int .u64 (y.ix : Int), .int .u64 (y.term : Int), .slice b y.body.length d]] w fun r w' => r = .returned (.bool (sameE x y)) ∧ Below w.heap.size w w' := by
  have hb1 : Below w.heap.size w ((w.alloc (.cells #[.int .u64 (x.ix : Int), .int .u64 (x.term : Int), .slice a x.body.length c] 55)).alloc (.cells #[.int .u64 (y.ix : Int), .int .u64 (y.term : Int), .slice b y.body.length d] 55)) := ((Below.refl _ _).alloc (Nat.le_refl _) _).alloc (by simp) _
  have HEQ := Lib.hid (equal_any a x.body.length c x.body b y.body.length d y.body _ (hx.below hb1) rfl (hy.below hb1) rfl)
  have HB1 := Lib.hid hb1
  clear hx hy hb1
  by_cases h1 : x.ix = y.ix
  · have hd1 : ((x.ix : Int) == (y.ix : Int)) = true := by rw [beq_iff_eq]; omega
    by_cases h2 : x.term = y.term
    · have hd2 : ((x.term : Int) == (y.term : Int)) = true := by rw [beq_iff_eq]; omega
      have HS := Lib.hid (show sameE x y = decide (x.body = y.body) by simp [sameE, h1, h2])
      clear h1 h2
      go_enter Tryz.func32, Tryz.ntmps32
      go_wp2_with fail
      refine HEQ.out.mono ?_
      rintro r w1 ⟨rfl, rfl⟩
      go_wp2_with fail
      go_ret
      rw [HS.out]
      exact ⟨rfl, HB1.out⟩
    · have hd2 : ((x.term : Int) == (y.term : Int)) = false := by rw [beq_eq_false_iff_ne]; omega
      have HS := Lib.hid (show sameE x y = false by simp [sameE, h1, h2])
      clear h1 h2 HEQ
      go_enter Tryz.func32, Tryz.ntmps32
      go_wp2_with fail
      go_ret
      rw [HS.out]
      exact ⟨rfl, HB1.out⟩
  · have hd1 : ((x.ix : Int) == (y.ix : Int)) = false := by rw [beq_eq_false_iff_ne]; omega
    have HS := Lib.hid (show sameE x y = false by simp [sameE, h1])
    clear h1 HEQ
    go_enter Tryz.func32, Tryz.ntmps32
    go_wp2_with fail
    go_ret
    rw [HS.out]
    exact ⟨rfl, HB1.out⟩

set_option maxRecDepth 100000 in
set_option maxHeartbeats 1000000 in
theorem refSame_ent (x y : Ent) (a b : Option Addr) (c d : Nat) (w : World) (hx : Reads w a x.body) (hy : Reads w b y.body) :
    Calls Tryz.prog 31 #[.agg #[.int .u64 (x.ix : Int), .int .u64 (x.term : Int), .slice a x.body.length c], .agg #[.int .u64 (y.ix : Int), .int .u64 (y.term : Int), .slice b y.body.length d]] w fun r w' => r = .returned (.bool (sameE x y)) ∧ Below w.heap.size w w' := by
  have hb1 : Below w.heap.size w ((w.alloc (.cells #[.int .u64 (x.ix : Int), .int .u64 (x.term : Int), .slice a x.body.length c] 55)).alloc (.cells #[.int .u64 (y.ix : Int), .int .u64 (y.term : Int), .slice b y.body.length d] 55)) := ((Below.refl _ _).alloc (Nat.le_refl _) _).alloc (by simp) _
  have hcx := (hx.below hb1).text x.body.length c rfl
  have hcy := (hy.below hb1).text y.body.length d rfl
  have HE := Lib.hid (str_eq hx.hr hy.hr)
  have HB1 := Lib.hid hb1
  clear hx hy hb1
  by_cases h1 : x.ix = y.ix
  · have hd1 : ((x.ix : Int) == (y.ix : Int)) = true := by rw [beq_iff_eq]; omega
    by_cases h2 : x.term = y.term
    · have hd2 : ((x.term : Int) == (y.term : Int)) = true := by rw [beq_iff_eq]; omega
      have HS := Lib.hid (show sameE x y = decide (x.body = y.body) by simp [sameE, h1, h2])
      clear h1 h2
      go_enter Tryz.func31, Tryz.ntmps31
      go_wp2
      go_ret
      rw [HS.out, ← HE.out]
      exact ⟨rfl, HB1.out⟩
    · have hd2 : ((x.term : Int) == (y.term : Int)) = false := by rw [beq_eq_false_iff_ne]; omega
      have HS := Lib.hid (show sameE x y = false by simp [sameE, h1, h2])
      clear h1 h2 hcx hcy
      go_enter Tryz.func31, Tryz.ntmps31
      go_wp2
      go_ret
      rw [HS.out]
      exact ⟨rfl, HB1.out⟩
  · have hd1 : ((x.ix : Int) == (y.ix : Int)) = false := by rw [beq_eq_false_iff_ne]; omega
    have HS := Lib.hid (show sameE x y = false by simp [sameE, h1])
    clear h1 hcx hcy
    go_enter Tryz.func31, Tryz.ntmps31
    go_wp2
    go_ret
    rw [HS.out]
    exact ⟨rfl, HB1.out⟩

end Go.Proofs.YtmfemedcjgeheaaGreatDoor
