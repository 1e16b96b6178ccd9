/- Remove, by its contract. See, Pause, by their contracts. -/
import Derived.Test.YtpbnjibomdilhaaGreatDoorChangeT
namespace Go.Proofs.YtpbnjibomdilhaaGreatDoor.Job
open Go.RowKit Go.Maps

/-- how Remove ends -/
def RemPost (w : World) (k b : Nat) (L : List J) (last id : Int) (e : Ending) (w' : World) : Prop :=
  ∃ ce L', e = .returned (.int .i64 ce) ∧ TabAt w' k b L' last ∧ Eff k b w w' ∧
    ((findJ L id = none ∧ ce = 5 ∧ L' = L) ∨ ∃ was, findJ L id = some was ∧
      ((ce = 151 ∧ Gr.usersOf (rowJ L) id ≠ [] ∧ L' = L) ∨ (ce = 0 ∧ Gr.usersOf (rowJ L) id = [] ∧ L' = dropJ L id)))
set_option maxRecDepth 100000 in
set_option maxHeartbeats 2000000 in
theorem rem_no {w : World} {k b : Nat} {L : List J} {last : Int} (h : TabAt w k b L last) {id : Int} (hi : U64 id) (hf : findJ L id = none) :
    Calls Tryz.prog 12 #[.pointer (some ⟨k, 0, none⟩), .int .u64 id] w (RemPost w k b L last id) := by
  have HTH := Lib.hid (there_no h hi hf)
  have HT := Lib.hid h
  have HF := Lib.hid hf
  clear h hf
  rw [show zeroJ.val = .agg zeroC from rfl] at HTH
  go_enter Tryz.func12, Tryz.ntmps12
  go_wp2_with fail
  refine HTH.out.mono ?_
  rintro e w1 ⟨rfl, hb1⟩
  have hbb : Below w.heap.size w (w1.alloc (.cells zeroC 29)) := hb1.alloc hb1.size _
  have HBB := Lib.hid hbb
  have HTB := Lib.hid (HT.out.below hbb)
  clear hb1 hbb HTH
  go_wp2
  go_ret
  exact ⟨5, L, rfl, HTB.out, Eff.of_below HBB.out, .inl ⟨HF.out, rfl, rfl⟩⟩

set_option maxRecDepth 100000 in
set_option maxHeartbeats 4000000 in
theorem rem_yes {w : World} {k b : Nat} {L : List J} {last : Int} {n : Nat} (h : TabAt w k b L last) (ho : Ok L last n) {id : Int} (hi : U64 id) {was : J} (hf : findJ L id = some was) :
    Calls Tryz.prog 12 #[.pointer (some ⟨k, 0, none⟩), .int .u64 id] w (RemPost w k b L last id) := by
  have HTH := Lib.hid (there_yes h hi hf)
  have HT := Lib.hid h
  have HF := Lib.hid hf
  have HOK := Lib.hid ho
  have HI := Lib.hid hi
  clear h hf ho hi
  unfold J.val J.cells jcells at HTH
  go_enter Tryz.func12, Tryz.ntmps12
  go_wp2_with fail
  refine HTH.out.mono ?_
  rintro e w1 ⟨rfl, hb1⟩
  obtain ⟨w2, hw2⟩ : ∃ W, W = w1.alloc (.cells was.cs 29) := ⟨_, rfl⟩
  have hb2 : Below w.heap.size w w2 := by rw [hw2]; exact hb1.alloc hb1.size _
  have HW2 := Lib.hid hw2
  have HB2 := Lib.hid hb2
  have HNO := Lib.hid (nodes_any (HT.out.below hb2) (HOK.out.deps (by omega)) (by have := HOK.out.len; omega))
  clear hw2 hb2 hb1 HTH
  go_wp2_with fail
  rw [← HW2.out]
  refine HNO.out.mono ?_
  rintro e w3 ⟨v, l, B, rfl, hrow, hB, hof, hnf, hb3⟩
  obtain ⟨va, vc, rfl, -⟩ := ownRow_shape hrow.own
  have hlen : l.length = L.length := by have := congrArg List.length hof; simpa [Gph.rowOf, rowJ] using this
  have hus := Gph.users_any (c := vc) (hrow.read fun x hx => (hnf x hx).1).1 (by rw [hlen]; have := HOK.out.len; omega) (fun x hx => by
    have hm : (x.id, x.deps) ∈ rowJ L := by rw [← hof]; exact List.mem_map.2 ⟨x, hx, rfl⟩
    obtain ⟨m, hm1, e⟩ := rowJ_mem.1 hm
    have e2 : m.deps = x.deps := congrArg Prod.snd e
    rw [← e2]
    exact HOK.out.deps (by omega) m hm1) id
  have huse : Gph.useOf (Gph.rowOf l) id = Gr.usersOf (rowJ L) id := by
    unfold Gph.useOf
    rw [hof, if_pos (by have := HOK.out.len; simp [rowJ]; omega)]
  rw [huse] at hus
  have HUS := Lib.hid hus
  have HB3 := Lib.hid (HB2.out.trans (hb3.mono HB2.out.size))
  clear hrow hB hof hnf hb3 hlen hus huse HNO
  go_wp2_with fail
  refine HUS.out.mono ?_
  rintro e w4 ⟨v4, rfl, hr4, hb4⟩
  obtain ⟨va4, vc4, rfl⟩ := hr4.shape
  have hbb4 := HB3.out.trans (hb4.mono HB3.out.size)
  have HB4 := Lib.hid hbb4
  have HT4 := Lib.hid (HT.out.below hbb4)
  clear hr4 hb4 hbb4 HUS
  obtain ⟨us, hu⟩ : ∃ us, us = Gr.usersOf (rowJ L) id := ⟨_, rfl⟩
  rw [← hu]
  by_cases h0 : us = []
  · have HU := Lib.hid (show Gr.usersOf (rowJ L) id = [] by rw [← hu]; exact h0)
    rw [h0]
    obtain ⟨c0, -⟩ := HT4.out.cells
    obtain ⟨D, hD, hH⟩ := HT4.out.map
    have HD := Lib.hid hD
    have HH := Lib.hid hH
    clear h0 hu hD hH
    go_wp2_with (first
      | (refine wpList_delete_own _ rfl _ _ 53 26 rfl 29 Gph.keyU_law Tryz.underlying53 jobElem b (Maps.size D) D rfl HD.out (.int .u64 id) (.int .u64 id) rfl (keyOfU HI.out) ?_; intro w5 hown htn)
      | go_in)
    have hg := htn.grown
    have HT5 := Lib.hid (HT4.out.drop HD.out HH.out hown hg)
    have HF5 := Lib.hid ((Eff.of_below (k := k) (b := b) HB4.out).trans (Eff.of_grown hg))
    clear hown htn hg
    go_wp2
    go_ret
    exact ⟨0, _, rfl, HT5.out, HF5.out, .inr ⟨was, HF.out, .inr ⟨rfl, HU.out, rfl⟩⟩⟩
  · have HU := Lib.hid (show Gr.usersOf (rowJ L) id ≠ [] by rw [← hu]; exact h0)
    have hpos : 0 < us.length := List.length_pos_iff.2 h0
    have hd : decide ((0 : Int) < (us.length : Int)) = true := by simp; exact hpos
    clear h0 hu
    go_wp2
    go_ret
    exact ⟨151, L, rfl, HT4.out, Eff.of_below HB4.out, .inr ⟨was, HF.out, .inl ⟨rfl, HU.out, rfl⟩⟩⟩
end Go.Proofs.YtpbnjibomdilhaaGreatDoor.Job

namespace Go.Proofs.YtpbnjibomdilhaaGreatDoor.Job
open Go.RowKit Go.Maps

def J.seenAt (j : J) (s : Int) : J := { j with seen := max j.seen s }
def J.pauAt (j : J) (p : Bool) : J := { j with pau := p }
/-- how See and Pause end: what the job is then -/
def NotePost (w : World) (k b : Nat) (L : List J) (last id s : Int) (f : J → J) (e : Ending) (w' : World) : Prop :=
  ∃ ce L', e = .returned (.int .i64 ce) ∧ TabAt w' k b L' last ∧ Eff k b w w' ∧
    ((findJ L id = none ∧ ce = 5 ∧ L' = L) ∨ ∃ was, findJ L id = some was ∧
      ((ce = 2 ∧ L' = L) ∨ (ce = 0 ∧ seenB s = true ∧ ∃ da dc, L' = putJ L ((f was).at da dc))))
set_option maxRecDepth 100000 in
set_option maxHeartbeats 2000000 in
theorem see_no {w : World} {k b : Nat} {L : List J} {last : Int} (h : TabAt w k b L last) {id : Int} (hi : U64 id) (hf : findJ L id = none) (s : Int) (f : J → J) :
    Calls Tryz.prog 14 #[.pointer (some ⟨k, 0, none⟩), .int .u64 id, .int .i64 s] w (NotePost w k b L last id s f) := by
  have HTH := Lib.hid (there_no h hi hf)
  have HT := Lib.hid h
  have HF := Lib.hid hf
  clear h hf
  rw [show zeroJ.val = .agg zeroC from rfl] at HTH
  go_enter Tryz.func14, Tryz.ntmps14
  go_wp2_with fail
  refine HTH.out.mono ?_
  rintro e w1 ⟨rfl, hb1⟩
  have hbb : Below w.heap.size w (w1.alloc (.cells zeroC 29)) := hb1.alloc hb1.size _
  have HBB := Lib.hid hbb
  have HTB := Lib.hid (HT.out.below hbb)
  clear hb1 hbb HTH
  go_wp2
  go_ret
  exact ⟨5, L, rfl, HTB.out, Eff.of_below HBB.out, .inl ⟨HF.out, rfl, rfl⟩⟩
set_option maxRecDepth 100000 in
set_option maxHeartbeats 2000000 in
theorem pause_no {w : World} {k b : Nat} {L : List J} {last : Int} (h : TabAt w k b L last) {id : Int} (hi : U64 id) (hf : findJ L id = none) (p : Bool) (s : Int) (f : J → J) :
    Calls Tryz.prog 13 #[.pointer (some ⟨k, 0, none⟩), .int .u64 id, .bool p, .int .i64 s] w (NotePost w k b L last id s f) := by
  have HTH := Lib.hid (there_no h hi hf)
  have HT := Lib.hid h
  have HF := Lib.hid hf
  clear h hf
  rw [show zeroJ.val = .agg zeroC from rfl] at HTH
  go_enter Tryz.func13, Tryz.ntmps13
  go_wp2_with fail
  refine HTH.out.mono ?_
  rintro e w1 ⟨rfl, hb1⟩
  have hbb : Below w.heap.size w (w1.alloc (.cells zeroC 29)) := hb1.alloc hb1.size _
  have HBB := Lib.hid hbb
  have HTB := Lib.hid (HT.out.below hbb)
  clear hb1 hbb HTH
  go_wp2
  go_ret
  exact ⟨5, L, rfl, HTB.out, Eff.of_below HBB.out, .inl ⟨HF.out, rfl, rfl⟩⟩

set_option maxRecDepth 100000 in
set_option maxHeartbeats 4000000 in
theorem see_yes {w : World} {k b : Nat} {L : List J} {last : Int} {n : Nat} (h : TabAt w k b L last) (ho : Ok L last n) {id : Int} (hi : U64 id) {was : J} (hf : findJ L id = some was) (s : Int) :
    Calls Tryz.prog 14 #[.pointer (some ⟨k, 0, none⟩), .int .u64 id, .int .i64 s] w (NotePost w k b L last id s fun j => j.seenAt s) := by
  have HTH := Lib.hid (there_yes h hi hf)
  have HT := Lib.hid h
  have HF := Lib.hid hf
  have HOK := Lib.hid ho
  have HI := Lib.hid hi
  clear h hf ho hi
  unfold J.val J.cells jcells at HTH
  go_enter Tryz.func14, Tryz.ntmps14
  go_wp2_with fail
  refine HTH.out.mono ?_
  rintro e w1 ⟨rfl, hb1⟩
  obtain ⟨w2, hw2⟩ : ∃ W, W = w1.alloc (.cells was.cs 29) := ⟨_, rfl⟩
  obtain ⟨q, hq⟩ : ∃ q, q = w1.heap.size := ⟨_, rfl⟩
  have hq2 : w2.heap[q]? = some (jobj was) := by rw [hw2, hq]; exact heap_alloc_new w1 _
  have hb2 : Below w.heap.size w w2 := by rw [hw2]; exact hb1.alloc hb1.size _
  have hwq : w.heap.size ≤ q := by rw [hq]; exact hb1.size
  have HW2 := Lib.hid hw2
  have HB2 := Lib.hid hb2
  have HQ2 := Lib.hid hq2
  have HWQ := Lib.hid hwq
  have HQQ := Lib.hid hq
  clear hw2 hb2 hb1 hq2 hwq hq HTH
  go_wp2_with fail
  rw [← HW2.out, ← HQQ.out]
  refine (isSeen_any s w2).mono ?_
  rintro e w3 ⟨rfl, rfl⟩
  cases hs : seenB s with
  | false =>
    have HT2 := Lib.hid (HT.out.below HB2.out)
    clear hs
    go_wp2
    go_ret
    exact ⟨2, L, rfl, HT2.out, Eff.of_below HB2.out, .inr ⟨was, HF.out, .inl ⟨rfl, rfl⟩⟩⟩
  | true =>
    have HS := Lib.hid hs
    have hr : -1 ≤ s ∧ s < 13569465600 := by simpa [seenB] using hs
    clear hs
    have e11 := (jobj_cells HQ2.out).2.2.2.2.2.2
    have f11 := jfree HQ2.out 11
    obtain ⟨j2, hj2⟩ : ∃ x, x = was.seenAt s := ⟨_, rfl⟩
    obtain ⟨w3, hw3⟩ : ∃ W, W = w2.setCell ⟨q, 11, none⟩ (.int .i64 (max was.seen s)) := ⟨_, rfl⟩
    have hjq : (w2.setCell ⟨q, 11, none⟩ (.int .i64 (max was.seen s))).heap[q]? = some (jobj j2) := by
      rw [hj2]
      simp [World.setCell, Array.getElem?_modify, HQ2.out, jobj, J.cells, jcells, J.seenAt]
    have hb3 : Below w.heap.size w w3 := by
      have hwq := HWQ.out
      exact HB2.out.trans ⟨by rw [hw3]; rfl, by rw [hw3]; rfl, by rw [hw3]; rfl, by rw [hw3]; simp [World.setCell], fun i hi => by rw [hw3]; exact Below.heap_setCell w2 ⟨q, 11, none⟩ _ i (show i ≠ q by omega)⟩
    have hid : j2.id = id := by rw [hj2]; exact (findJ_mem HF.out).2
    have hjw := HT.out.each was (findJ_mem HF.out).1
    have hjf : JF w3 j2 := by
      rw [hj2]
      exact ⟨hjw.id, hjw.ver, hjw.fit, hjw.vals.below hb3, hjw.none_, hjw.cap, hjw.big⟩
    have hput := put_any (HT.out.below hb3) hjf (by rw [hj2]; exact HOK.out.deps (by omega) was (findJ_mem HF.out).1) (.inl (by rw [hid, HF.out]; rfl)) (by have := HOK.out.len; omega)
    obtain ⟨⟨d0, d1, d2, d3, d4, d5⟩, d6, d7, d8, d9, d10, d11⟩ := jobj_cells hjq
    have HPUT := Lib.hid hput
    have HW3 := Lib.hid hw3
    have HB3 := Lib.hid hb3
    have HJ2 := Lib.hid hj2
    clear hput hw3 hb3 hj2 hid hjf hjw hjq
    unfold J.val J.cells jcells at HPUT
    go_wp2_with fail
    rw [← HW3.out]
    refine HPUT.out.mono ?_
    rintro e w7 ⟨rfl, ⟨da, dc, ht7⟩, hf7⟩
    have HT7 := Lib.hid ht7
    have HF7 := Lib.hid ((Eff.of_below (k := k) (b := b) HB3.out).trans hf7)
    clear ht7 hf7 HPUT d0 d1 d2 d3 d4 d5 d6 d7 d8 d9 d10 d11 e11 f11
    go_wp2
    go_ret
    refine ⟨0, _, rfl, HT7.out, HF7.out, .inr ⟨was, HF.out, .inr ⟨rfl, HS.out, da, dc, ?_⟩⟩⟩
    rw [HJ2.out]
/-- what Pause makes of a job -/
def pauF (p : Bool) (s : Int) (j : J) : J := if (j.pau && !p) = true then (j.seenAt s).pauAt p else j.pauAt p
set_option maxRecDepth 100000 in
set_option maxHeartbeats 4000000 in
theorem pause_yes {w : World} {k b : Nat} {L : List J} {last : Int} {n : Nat} (h : TabAt w k b L last) (ho : Ok L last n) {id : Int} (hi : U64 id) {was : J} (hf : findJ L id = some was) (p : Bool) (s : Int) :
    Calls Tryz.prog 13 #[.pointer (some ⟨k, 0, none⟩), .int .u64 id, .bool p, .int .i64 s] w (NotePost w k b L last id s (pauF p s)) := by
  have HTH := Lib.hid (there_yes h hi hf)
  have HT := Lib.hid h
  have HF := Lib.hid hf
  have HOK := Lib.hid ho
  have HI := Lib.hid hi
  clear h hf ho hi
  unfold J.val J.cells jcells at HTH
  go_enter Tryz.func13, Tryz.ntmps13
  go_wp2_with fail
  refine HTH.out.mono ?_
  rintro e w1 ⟨rfl, hb1⟩
  obtain ⟨w2, hw2⟩ : ∃ W, W = w1.alloc (.cells was.cs 29) := ⟨_, rfl⟩
  obtain ⟨q, hq⟩ : ∃ q, q = w1.heap.size := ⟨_, rfl⟩
  have hq2 : w2.heap[q]? = some (jobj was) := by rw [hw2, hq]; exact heap_alloc_new w1 _
  have hb2 : Below w.heap.size w w2 := by rw [hw2]; exact hb1.alloc hb1.size _
  have hwq : w.heap.size ≤ q := by rw [hq]; exact hb1.size
  have HW2 := Lib.hid hw2
  have HB2 := Lib.hid hb2
  have HQ2 := Lib.hid hq2
  have HWQ := Lib.hid hwq
  have HQQ := Lib.hid hq
  clear hw2 hb2 hb1 hq2 hwq hq HTH
  go_wp2_with fail
  rw [← HW2.out, ← HQQ.out]
  refine (isSeen_any s w2).mono ?_
  rintro e w3 ⟨rfl, rfl⟩
  cases hs : seenB s with
  | false =>
    have HT2 := Lib.hid (HT.out.below HB2.out)
    clear hs
    go_wp2
    go_ret
    exact ⟨2, L, rfl, HT2.out, Eff.of_below HB2.out, .inr ⟨was, HF.out, .inl ⟨rfl, rfl⟩⟩⟩
  | true =>
    have HS := Lib.hid hs
    have hr : -1 ≤ s ∧ s < 13569465600 := by simpa [seenB] using hs
    clear hs
    cases hp : (was.pau && !p) with
    | true =>
      have hwp : was.pau = true := by revert hp; cases was.pau <;> simp
      have hpp : p = false := by revert hp; cases p <;> simp
      subst hpp
      have e9 := (jobj_cells HQ2.out).2.2.2.2.1
      rw [hwp] at e9
      have e11 := (jobj_cells HQ2.out).2.2.2.2.2.2
      have f11 := jfree HQ2.out 11
      have f9 := jfree HQ2.out 9
      obtain ⟨j2, hj2⟩ : ∃ x, x = pauF false s was := ⟨_, rfl⟩
      obtain ⟨w3, hw3⟩ : ∃ W, W = (w2.setCell ⟨q, 11, none⟩ (.int .i64 (max was.seen s))).setCell ⟨q, 9, none⟩ (.bool false) := ⟨_, rfl⟩
      have hjq : ((w2.setCell ⟨q, 11, none⟩ (.int .i64 (max was.seen s))).setCell ⟨q, 9, none⟩ (.bool false)).heap[q]? = some (jobj j2) := by
        rw [hj2]
        simp [World.setCell, Array.getElem?_modify, HQ2.out, jobj, J.cells, jcells, J.seenAt, J.pauAt, pauF, hwp]
      have hb3 : Below w.heap.size w w3 := by
        have hwq := HWQ.out
        exact HB2.out.trans ⟨by rw [hw3]; rfl, by rw [hw3]; rfl, by rw [hw3]; rfl, by rw [hw3]; simp [World.setCell], fun i hi => by rw [hw3, Below.heap_setCell _ ⟨q, 9, none⟩ _ i (show i ≠ q by omega)]; exact Below.heap_setCell w2 ⟨q, 11, none⟩ _ i (show i ≠ q by omega)⟩
      have hjf : JF w3 j2 := by
        have hjw := HT.out.each was (findJ_mem HF.out).1
        rw [hj2]
        simp only [pauF, hwp, Bool.not_false, Bool.and_self, if_true]
        exact ⟨hjw.id, hjw.ver, hjw.fit, hjw.vals.below hb3, hjw.none_, hjw.cap, hjw.big⟩
      have hid : j2.id = id := by rw [hj2]; simp only [pauF, hwp, Bool.not_false, Bool.and_self, if_true]; exact (findJ_mem HF.out).2
      have hdd : j2.deps.length ≤ 1000000 := by rw [hj2]; simp only [pauF, hwp, Bool.not_false, Bool.and_self, if_true]; exact HOK.out.deps (by omega) was (findJ_mem HF.out).1
      have hput := put_any (HT.out.below hb3) hjf hdd (.inl (by rw [hid, HF.out]; rfl)) (by have := HOK.out.len; omega)
      obtain ⟨⟨d0, d1, d2, d3, d4, d5⟩, d6, d7, d8, d9, d10, d11⟩ := jobj_cells hjq
      have HPUT := Lib.hid hput
      have HW3 := Lib.hid hw3
      have HB3 := Lib.hid hb3
      have HJ2 := Lib.hid hj2
      clear hput hw3 hb3 hj2 hid hjf hdd hjq hp hwp
      unfold J.val J.cells jcells at HPUT
      go_wp2_with fail
      rw [← HW3.out]
      refine HPUT.out.mono ?_
      rintro e w7 ⟨rfl, ⟨da, dc, ht7⟩, hf7⟩
      have HT7 := Lib.hid ht7
      have HF7 := Lib.hid ((Eff.of_below (k := k) (b := b) HB3.out).trans hf7)
      clear ht7 hf7 HPUT d0 d1 d2 d3 d4 d5 d6 d7 d8 d9 d10 d11 e9 f9
      go_wp2
      go_ret
      refine ⟨0, _, rfl, HT7.out, HF7.out, .inr ⟨was, HF.out, .inr ⟨rfl, HS.out, da, dc, ?_⟩⟩⟩
      rw [HJ2.out]
    | false =>
      have e9 := (jobj_cells HQ2.out).2.2.2.2.1
      have f9 := jfree HQ2.out 9
      obtain ⟨j2, hj2⟩ : ∃ x, x = pauF p s was := ⟨_, rfl⟩
      obtain ⟨w3, hw3⟩ : ∃ W, W = w2.setCell ⟨q, 9, none⟩ (.bool p) := ⟨_, rfl⟩
      have hjq : (w2.setCell ⟨q, 9, none⟩ (.bool p)).heap[q]? = some (jobj j2) := by
        rw [hj2]
        simp [World.setCell, Array.getElem?_modify, HQ2.out, jobj, J.cells, jcells, J.pauAt, pauF, hp]
      have hb3 : Below w.heap.size w w3 := by
        have hwq := HWQ.out
        exact HB2.out.trans ⟨by rw [hw3]; rfl, by rw [hw3]; rfl, by rw [hw3]; rfl, by rw [hw3]; simp [World.setCell], fun i hi => by rw [hw3]; exact Below.heap_setCell w2 ⟨q, 9, none⟩ _ i (show i ≠ q by omega)⟩
      have hjf : JF w3 j2 := by
        have hjw := HT.out.each was (findJ_mem HF.out).1
        rw [hj2]
        simp only [pauF, hp, Bool.false_eq_true, if_false]
        exact ⟨hjw.id, hjw.ver, hjw.fit, hjw.vals.below hb3, hjw.none_, hjw.cap, hjw.big⟩
      have hid : j2.id = id := by rw [hj2]; simp only [pauF, hp, Bool.false_eq_true, if_false]; exact (findJ_mem HF.out).2
      have hdd : j2.deps.length ≤ 1000000 := by rw [hj2]; simp only [pauF, hp, Bool.false_eq_true, if_false]; exact HOK.out.deps (by omega) was (findJ_mem HF.out).1
      cases hwp : was.pau with
      | true =>
        have hpp : p = true := by rw [hwp] at hp; revert hp; cases p <;> simp
        subst hpp
        rw [hwp] at e9
        have hput := put_any (HT.out.below hb3) hjf hdd (.inl (by rw [hid, HF.out]; rfl)) (by have := HOK.out.len; omega)
        obtain ⟨⟨d0, d1, d2, d3, d4, d5⟩, d6, d7, d8, d9, d10, d11⟩ := jobj_cells hjq
        have HPUT := Lib.hid hput
        have HW3 := Lib.hid hw3
        have HB3 := Lib.hid hb3
        have HJ2 := Lib.hid hj2
        clear hput hw3 hb3 hj2 hid hjf hdd hjq hp hwp
        unfold J.val J.cells jcells at HPUT
        go_wp2_with fail
        rw [← HW3.out]
        refine HPUT.out.mono ?_
        rintro e w7 ⟨rfl, ⟨da, dc, ht7⟩, hf7⟩
        have HT7 := Lib.hid ht7
        have HF7 := Lib.hid ((Eff.of_below (k := k) (b := b) HB3.out).trans hf7)
        clear ht7 hf7 HPUT d0 d1 d2 d3 d4 d5 d6 d7 d8 d9 d10 d11 e9 f9
        go_wp2
        go_ret
        refine ⟨0, _, rfl, HT7.out, HF7.out, .inr ⟨was, HF.out, .inr ⟨rfl, HS.out, da, dc, ?_⟩⟩⟩
        rw [HJ2.out]
      | false =>
        rw [hwp] at e9
        have hput := put_any (HT.out.below hb3) hjf hdd (.inl (by rw [hid, HF.out]; rfl)) (by have := HOK.out.len; omega)
        obtain ⟨⟨d0, d1, d2, d3, d4, d5⟩, d6, d7, d8, d9, d10, d11⟩ := jobj_cells hjq
        have HPUT := Lib.hid hput
        have HW3 := Lib.hid hw3
        have HB3 := Lib.hid hb3
        have HJ2 := Lib.hid hj2
        clear hput hw3 hb3 hj2 hid hjf hdd hjq hp hwp
        unfold J.val J.cells jcells at HPUT
        go_wp2_with fail
        rw [← HW3.out]
        refine HPUT.out.mono ?_
        rintro e w7 ⟨rfl, ⟨da, dc, ht7⟩, hf7⟩
        have HT7 := Lib.hid ht7
        have HF7 := Lib.hid ((Eff.of_below (k := k) (b := b) HB3.out).trans hf7)
        clear ht7 hf7 HPUT d0 d1 d2 d3 d4 d5 d6 d7 d8 d9 d10 d11 e9 f9
        go_wp2
        go_ret
        refine ⟨0, _, rfl, HT7.out, HF7.out, .inr ⟨was, HF.out, .inr ⟨rfl, HS.out, da, dc, ?_⟩⟩⟩
        rw [HJ2.out]
end Go.Proofs.YtpbnjibomdilhaaGreatDoor.Job
