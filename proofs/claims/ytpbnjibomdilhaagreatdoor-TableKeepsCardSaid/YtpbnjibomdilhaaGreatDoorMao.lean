/- put, by its contract: a job stored in the table. only, refuses, Find, by their contracts. -/
import Derived.Test.YtpbnjibomdilhaaGreatDoorMan
import Derived.Deep.RegionHeld3
namespace Go.Proofs.YtpbnjibomdilhaaGreatDoor.Job
open Go.RowKit Go.Maps

set_option maxRecDepth 100000 in
set_option maxHeartbeats 2000000 in
theorem put_any {w : World} {k b : Nat} {L : List J} {last : Int} (h : TabAt w k b L last) {j : J} (hj : JF w j) (hd : j.deps.length ≤ 1000000) (hn : (findJ L j.id).isSome ∨ ∀ m ∈ L, m.id < j.id) (hL : L.length < 1000000) :
    Calls Tryz.prog 28 #[.pointer (some ⟨k, 0, none⟩), j.val] w fun e w' => e = .returned (.tuple #[]) ∧ (∃ da dc, TabAt w' k b (putJ L (j.at da dc)) last) ∧ Eff k b w w' := by
  obtain ⟨w0, hw0⟩ : ∃ W, W = w.alloc (.cells j.cs 29) := ⟨_, rfl⟩
  have hb0 : Below w.heap.size w w0 := by rw [hw0]; exact (Below.refl _ _).alloc (Nat.le_refl _) _
  have hj0 : w0.heap[w.heap.size]? = some (jobj j) := by rw [hw0]; exact heap_alloc_new w _
  obtain ⟨u, hu⟩ : ∃ u, u = w0.drew := ⟨_, rfl⟩
  have hbu : Below w.heap.size w u := by rw [hu]; exact hb0.drew
  have hju : u.heap[w.heap.size]? = some (jobj j) := by rw [hu]; exact hj0
  have htu := h.below hbu
  have HT := Lib.hid (told_any (hj.below hbu) hd)
  have HU := Lib.hid hu
  have HW0 := Lib.hid hw0
  have HBU := Lib.hid hbu
  have HJU := Lib.hid hju
  have HTU := Lib.hid htu
  have hcu := htu.cells.1
  have HC := Lib.hid hcu
  have HN := Lib.hid hn
  have HL := Lib.hid hL
  have HID := Lib.hid hj.id
  have HLB := Lib.hid h.ltb
  clear h hj hd hn hL hu hw0 hb0 hj0 hbu hju htu hcu
  unfold J.val J.cells jcells at HT ⊢
  go_enter Tryz.func28, Tryz.ntmps28
  go_wp2_with fail
  rw [← HW0.out]
  refine wp_region_held_drew (S := fun W => W.heap[w.heap.size]? = some (jobj j) ∧ W.cell? ⟨k, 0, none⟩ = some (.map (some b))) (by kernel_rfl) (by rw [← HU.out]; exact ⟨HJU.out, HC.out⟩) (fun hHeld => ?_)
  rw [← HU.out] at hHeld ⊢
  refine wpAnyH_take (i := 0) (oi := ?_) (v := ?_) ?_ (by kernel_rfl) (by kernel_rfl) (by kernel_rfl) ?_ (Or.inl ⟨?_, ?_⟩) (by assumption) ?_
  rotate_left 2
  focus (simp only [List.getElem?_toArray, List.getElem?_cons_zero]; rfl)
  focus exact fun _ _ _ h => h
  focus rfl
  focus (intro W hS; (try dsimp only at hS); obtain ⟨hS1, hcc⟩ := hS; obtain ⟨⟨k0, k1, k2, k3, k4, k5⟩, k6, k7, k8, k9, k10, k11⟩ := jobj_cells hS1; clear hS1; go_simp; (try with_reducible rfl))
  try simp only [Act.put]
  try simp only [List.setIfInBounds_toArray]
  try simp only [List.set_cons_succ]
  try simp only [List.set_cons_zero]
  refine wpAnyH_take (i := 1) (oi := ?_) (v := ?_) ?_ (by kernel_rfl) (by kernel_rfl) (by kernel_rfl) ?_ (Or.inl ⟨?_, ?_⟩) (by assumption) ?_
  rotate_left 2
  focus (simp only [List.getElem?_toArray, List.getElem?_cons_succ, List.getElem?_cons_zero]; rfl)
  focus exact fun _ _ _ h => h
  focus rfl
  focus (intro W hS; (try dsimp only at hS); obtain ⟨hS1, hcc⟩ := hS; obtain ⟨⟨k0, k1, k2, k3, k4, k5⟩, k6, k7, k8, k9, k10, k11⟩ := jobj_cells hS1; clear hS1; go_simp; (try with_reducible rfl))
  try simp only [Act.put]
  try simp only [List.setIfInBounds_toArray]
  try simp only [List.set_cons_succ]
  try simp only [List.set_cons_zero]
  refine wpAnyH_take (i := 2) (oi := ?_) (v := ?_) ?_ (by kernel_rfl) (by kernel_rfl) (by kernel_rfl) ?_ (Or.inl ⟨?_, ?_⟩) (by assumption) ?_
  rotate_left 2
  focus (simp only [List.getElem?_toArray, List.getElem?_cons_succ, List.getElem?_cons_zero]; rfl)
  focus exact fun _ _ _ h => h
  focus rfl
  focus (intro W hS; (try dsimp only at hS); obtain ⟨hS1, hcc⟩ := hS; obtain ⟨⟨k0, k1, k2, k3, k4, k5⟩, k6, k7, k8, k9, k10, k11⟩ := jobj_cells hS1; clear hS1; go_simp; (try with_reducible rfl))
  try simp only [Act.put]
  try simp only [List.setIfInBounds_toArray]
  try simp only [List.set_cons_succ]
  try simp only [List.set_cons_zero]
  refine wpAnyH_take (i := 3) (oi := ?_) (v := ?_) ?_ (by kernel_rfl) (by kernel_rfl) (by kernel_rfl) ?_ (Or.inl ⟨?_, ?_⟩) (by assumption) ?_
  rotate_left 2
  focus (simp only [List.getElem?_toArray, List.getElem?_cons_succ, List.getElem?_cons_zero]; rfl)
  focus exact fun _ _ _ h => h
  focus rfl
  focus (intro W hS; (try dsimp only at hS); obtain ⟨hS1, hcc⟩ := hS; obtain ⟨⟨k0, k1, k2, k3, k4, k5⟩, k6, k7, k8, k9, k10, k11⟩ := jobj_cells hS1; clear hS1; go_simp; (try with_reducible rfl))
  try simp only [Act.put]
  try simp only [List.setIfInBounds_toArray]
  try simp only [List.set_cons_succ]
  try simp only [List.set_cons_zero]
  refine wpAnyH_take (i := 4) (oi := ?_) (v := ?_) ?_ (by kernel_rfl) (by kernel_rfl) (by kernel_rfl) ?_ (Or.inl ⟨?_, ?_⟩) (by assumption) ?_
  rotate_left 2
  focus (simp only [List.getElem?_toArray, List.getElem?_cons_succ, List.getElem?_cons_zero]; rfl)
  focus exact fun _ _ _ h => h
  focus rfl
  focus (intro W hS; (try dsimp only at hS); obtain ⟨hS1, hcc⟩ := hS; obtain ⟨⟨k0, k1, k2, k3, k4, k5⟩, k6, k7, k8, k9, k10, k11⟩ := jobj_cells hS1; clear hS1; go_simp; (try with_reducible rfl))
  try simp only [Act.put]
  try simp only [List.setIfInBounds_toArray]
  try simp only [List.set_cons_succ]
  try simp only [List.set_cons_zero]
  refine wpAnyH_take (i := 5) (oi := ?_) (v := ?_) ?_ (by kernel_rfl) (by kernel_rfl) (by kernel_rfl) ?_ (Or.inl ⟨?_, ?_⟩) (by assumption) ?_
  rotate_left 2
  focus (simp only [List.getElem?_toArray, List.getElem?_cons_succ, List.getElem?_cons_zero]; rfl)
  focus exact fun _ _ _ h => h
  focus rfl
  focus (intro W hS; (try dsimp only at hS); obtain ⟨hS1, hcc⟩ := hS; obtain ⟨⟨k0, k1, k2, k3, k4, k5⟩, k6, k7, k8, k9, k10, k11⟩ := jobj_cells hS1; clear hS1; go_simp; (try with_reducible rfl))
  try simp only [Act.put]
  try simp only [List.setIfInBounds_toArray]
  try simp only [List.set_cons_succ]
  try simp only [List.set_cons_zero]
  refine wpAnyH_take (i := 6) (oi := ?_) (v := ?_) ?_ (by kernel_rfl) (by kernel_rfl) (by kernel_rfl) ?_ (Or.inl ⟨?_, ?_⟩) (by assumption) ?_
  rotate_left 2
  focus (simp only [List.getElem?_toArray, List.getElem?_cons_succ, List.getElem?_cons_zero]; rfl)
  focus exact fun _ _ _ h => h
  focus rfl
  focus (intro W hS; (try dsimp only at hS); obtain ⟨hS1, hcc⟩ := hS; obtain ⟨⟨k0, k1, k2, k3, k4, k5⟩, k6, k7, k8, k9, k10, k11⟩ := jobj_cells hS1; clear hS1; go_simp; (try with_reducible rfl))
  try simp only [Act.put]
  try simp only [List.setIfInBounds_toArray]
  try simp only [List.set_cons_succ]
  try simp only [List.set_cons_zero]
  refine wpAnyH_ready (rs := [7]) (by kernel_rfl) (by simp) ?_
  refine AllReadyH.cons (o := ?_) ?_ (fun K hK => ?_) AllReadyH.nil
  rotate_left
  focus (simp only [List.getElem?_toArray, List.getElem?_cons_succ, List.getElem?_cons_zero]; rfl)
  rw [if_pos (by rfl)]
  go_simp
  refine HT.out.mono ?_
  rintro e w3 ⟨v, rfl, ⟨da, dc, rfl, hjf, hda⟩, hb3⟩
  have ht3 := HTU.out.below hb3
  obtain ⟨D, hD, hH⟩ := ht3.map
  obtain ⟨w4, hrun, hown, hg⟩ := hD.update Gph.keyU_law Tryz.underlying53 (by have := hH.size; have := HL.out; unfold maxLen; omega) (keyOfU HID.out) (jobElem_mk (j.at da dc).cells)
  have ht4 := ht3.put hD hH hjf (fun x hx => by have := (hda x hx).1; have := HTU.out.ltk; have := HTU.out.ltb; omega) HN.out hown hg
  have HT4 := Lib.hid ht4
  have HE4 := Lib.hid (((Eff.of_below HBU.out).trans (Eff.of_below hb3)).trans (Eff.of_grown (k := k) hg))
  have hS3 : w3.heap[w.heap.size]? = some (jobj j) ∧ w3.cell? ⟨k, 0, none⟩ = some (.map (some b)) := ⟨(hb3.block _ (lt_of_block HJU.out)).trans HJU.out, ht3.cells.1⟩
  have hS4 : w4.heap[w.heap.size]? = some (jobj j) ∧ w4.cell? ⟨k, 0, none⟩ = some (.map (some b)) := ⟨(hg.block _ (lt_of_block hS3.1) (by have := HLB.out; simp; omega)).trans hS3.1, ht4.cells.1⟩
  have HS3 := Lib.hid hS3
  have HS4 := Lib.hid hS4
  clear ht3 hD hH hown hg ht4 hjf hda hb3 hS3 hS4 HT
  unfold J.val J.cells jcells J.at
  unfold J.cells jcells J.at at hrun
  dsimp only at hrun ⊢
  go_simp
  refine hK.out _ _ HS3.out (fun hHeld => ?_)
  clear hK K
  try simp only [Act.put]
  try simp only [List.setIfInBounds_toArray]
  try simp only [List.set_cons_succ]
  try simp only [List.set_cons_zero]
  refine wpAnyH_ready (rs := [8]) (by kernel_rfl) (by simp) ?_
  refine AllReadyH.cons (o := ?_) ?_ (fun K hK => ?_) AllReadyH.nil
  rotate_left
  focus (simp only [List.getElem?_toArray, List.getElem?_cons_succ, List.getElem?_cons_zero]; rfl)
  rw [if_pos (by rfl)]
  go_simp
  refine hK.out _ _ HS4.out (fun hHeld => ?_)
  clear hK K
  try simp only [Act.put]
  try simp only [List.setIfInBounds_toArray]
  try simp only [List.set_cons_succ]
  try simp only [List.set_cons_zero]
  refine wpAnyH_done (by kernel_rfl) ?_ _
  clear hHeld hrun
  go_wp2_with fail
  go_end0
  exact ⟨rfl, ⟨da, dc, HT4.out⟩, HE4.out⟩
end Go.Proofs.YtpbnjibomdilhaaGreatDoor.Job

namespace Go.Proofs.YtpbnjibomdilhaaGreatDoor.Job
open Go.RowKit Go.Maps

set_option maxRecDepth 100000 in
set_option maxHeartbeats 1000000 in
/-- Find, whatever 'there' gives -/
theorem find_gen {w : World} {k : Nat} {id : Int} (J' : J) (ec : Int) (bo : Bool) (hbo : (ec == 0) = bo) (hj : JF w J') (hd : J'.deps.length ≤ 1000000)
    (hth : Calls Tryz.prog 24 #[.pointer (some ⟨k, 0, none⟩), .int .u64 id] (w.alloc (.cells zeroC 29)) fun e w' => e = .returned (.tuple #[J'.val, .int .i64 ec]) ∧ Below (w.alloc (.cells zeroC 29)).heap.size (w.alloc (.cells zeroC 29)) w') :
    Calls Tryz.prog 9 #[.pointer (some ⟨k, 0, none⟩), .int .u64 id] w fun e w' => ∃ da dc, e = .returned (.tuple #[(J'.at da dc).val, .bool bo]) ∧ Below w.heap.size w w' := by
  obtain ⟨w0, hw0⟩ : ∃ W, W = w.alloc (.cells zeroC 29) := ⟨_, rfl⟩
  rw [← hw0] at hth
  have hb0 : Below w.heap.size w w0 := by rw [hw0]; exact (Below.refl _ _).alloc (Nat.le_refl _) _
  have hz0 : w0.heap[w.heap.size]? = some (jobj zeroJ) := by rw [hw0]; exact heap_alloc_new w _
  have HW0 := Lib.hid hw0
  have HB0 := Lib.hid hb0
  have HZ0 := Lib.hid hz0
  have HTH := Lib.hid hth
  have HJ := Lib.hid hj
  have HD := Lib.hid hd
  clear hw0 hb0 hz0 hth hj hd
  unfold J.val J.cells jcells at HTH
  go_enter Tryz.func9, Tryz.ntmps9
  go_wp2_with fail
  rw [← HW0.out]
  refine HTH.out.mono ?_
  rintro e w1 ⟨rfl, hb1⟩
  obtain ⟨w2, hw2⟩ : ∃ W, W = w1.alloc (.cells J'.cs 29) := ⟨_, rfl⟩
  have hb2 : Below w1.heap.size w1 w2 := by rw [hw2]; exact (Below.refl _ _).alloc (Nat.le_refl _) _
  have hbb2 : Below w.heap.size w w2 := (HB0.out.trans (hb1.mono HB0.out.size)).trans (hb2.mono (Nat.le_trans HB0.out.size hb1.size))
  have hz2 : w2.heap[w.heap.size]? = some (jobj zeroJ) := (hb2.block _ (Nat.lt_of_lt_of_le (lt_of_block HZ0.out) hb1.size)).trans ((hb1.block _ (lt_of_block HZ0.out)).trans HZ0.out)
  have HT := Lib.hid (told_any (HJ.out.below hbb2) HD.out)
  have HW2 := Lib.hid hw2
  have HBB2 := Lib.hid hbb2
  have HZ2 := Lib.hid hz2
  clear hw2 hb2 hbb2 hz2 hb1 HTH
  unfold J.val J.cells jcells at HT
  go_wp2_with fail
  rw [← HW2.out]
  refine HT.out.mono ?_
  rintro e w3 ⟨v, rfl, ⟨da, dc, rfl, hjf, hda⟩, hb3⟩
  have hz3 : w3.heap[w.heap.size]? = some (jobj zeroJ) := (hb3.block _ (lt_of_block HZ2.out)).trans HZ2.out
  have HZ3 := Lib.hid hz3
  have HB3 := Lib.hid (HBB2.out.trans (hb3.mono HBB2.out.size))
  clear hjf hda hb3 hz3 HT
  rw [show (J'.at da dc).val = .agg (J'.at da dc).cs from rfl]
  go_wp2_with (refine wpList_store_row rfl 29 _ _ rfl w.heap.size (J'.at da dc).cs rfl rfl 29 zeroJ.cells HZ3.out (by kernel_rfl) rfl (by kernel_rfl) ?_)
  obtain ⟨⟨d0, d1, d2, d3, d4, d5⟩, d6, d7, d8, d9, d10, d11⟩ := jobj_cells (setJob (J'.at da dc) HZ3.out)
  refine bodyPost_ret (v := .tuple #[(J'.at da dc).val, .bool bo]) (by simp [results, Tryz.results9, go_sem, d0, d1, d2, d3, d4, d5, d6, d7, d8, d9, d10, d11, J.val, J.cells, jcells]) rfl ?_
  exact ⟨_, _, rfl, HB3.out.trans (below_row _ _ (Nat.le_refl _))⟩

theorem zeroJ_f (w : World) : JF w zeroJ := ⟨⟨by decide, by decide⟩, ⟨by decide, by decide⟩, fun x hx => (by cases hx), Vals.nil _ _, fun _ => ⟨rfl, rfl⟩, Nat.le_refl _, Nat.zero_le _⟩
theorem find_any {w : World} {k b : Nat} {L : List J} {last : Int} (h : TabAt w k b L last) {id : Int} (hi : U64 id) (hd : ∀ j ∈ L, j.deps.length ≤ 1000000) :
    Calls Tryz.prog 9 #[.pointer (some ⟨k, 0, none⟩), .int .u64 id] w fun e w' => ∃ da dc, e = .returned (.tuple #[(((findJ L id).getD zeroJ).at da dc).val, .bool (findJ L id).isSome]) ∧ Below w.heap.size w w' := by
  have h0 := h.below ((Below.refl _ _).alloc (Nat.le_refl _) (.cells zeroC 29))
  cases hf : findJ L id with
  | some j => exact find_gen j 0 true rfl (h.each j (findJ_mem hf).1) (hd j (findJ_mem hf).1) (there_yes h0 hi hf)
  | none => exact find_gen zeroJ 5 false rfl (zeroJ_f w) (by decide) (there_no h0 hi hf)

theorem name_eq (a b : ByteArray) : (a.toList == b.toList) = decide (a = b) := by
  rw [Lib.toList_data, Lib.toList_data, Bool.eq_iff_iff, beq_iff_eq, decide_eq_true_iff]
  constructor
  · intro h
    cases a; cases b
    exact congrArg _ (Array.ext' h)
  · rintro rfl; rfl
/-- is another one of that name? -/
def hitJ (m j : J) : Bool := decide (m.name = j.name) && !decide (m.id = j.id)
set_option maxRecDepth 100000 in
theorem hit_any (m j : J) (B : Nat) (w : World) (hB : w.heap[B]? = some (jobj j)) :
    Calls Tryz.prog 42 #[m.val, .pointer (some ⟨B, 0, none⟩)] w fun e w' => e = .returned (.bool (hitJ m j)) ∧ Below w.heap.size w w' := by
  have hb0 : Below w.heap.size w (w.alloc (.cells m.cs 29)) := (Below.refl _ _).alloc (Nat.le_refl _) _
  obtain ⟨⟨c0, c1, -, -, -, -⟩, -⟩ := jobj_cells ((hb0.block _ (lt_of_block hB)).trans hB)
  have HB0 := Lib.hid hb0
  clear hb0 hB
  have hnm := name_eq m.name j.name
  unfold hitJ J.val J.cells jcells
  cases hd : decide (m.name = j.name) with
  | true =>
    rw [hd] at hnm
    clear hd
    rw [Bool.true_and]
    cases hi : decide (m.id = j.id) with
    | true =>
      have hi2 : m.id = j.id := of_decide_eq_true hi
      have he : (m.id == j.id) = true := by simp [hi2]
      have hne : (m.id != j.id) = false := by simp [hi2]
      clear hi2
      go_enter Tryz.func42, Tryz.ntmps42
      go_wp2
      go_ret
      exact ⟨rfl, HB0.out⟩
    | false =>
      have hi2 : ¬ m.id = j.id := of_decide_eq_false hi
      have he : (m.id == j.id) = false := by simp [hi2]
      have hne : (m.id != j.id) = true := by simp [hi2]
      clear hi2
      go_enter Tryz.func42, Tryz.ntmps42
      go_wp2
      go_ret
      exact ⟨rfl, HB0.out⟩
  | false =>
    rw [hd] at hnm
    clear hd
    rw [Bool.false_and]
    go_enter Tryz.func42, Tryz.ntmps42
    go_wp2
    go_ret
    exact ⟨rfl, HB0.out⟩
end Go.Proofs.YtpbnjibomdilhaaGreatDoor.Job
