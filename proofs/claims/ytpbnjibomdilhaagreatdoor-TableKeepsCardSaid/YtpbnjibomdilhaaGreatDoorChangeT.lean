/- Change, by its contract. -/
import Derived.Test.YtpbnjibomdilhaaGreatDoorMav
namespace Go.Proofs.YtpbnjibomdilhaaGreatDoor.Job
open Go.RowKit Go.Maps

def J.keep (j was : J) : J := { j with pau := was.pau, seen := was.seen, ver := was.ver + 1 }
theorem TabAt.but {w w6 w' : World} {k b : Nat} {L : List J} {last : Int} (h0 : TabAt w k b L last) (h : TabAt w6 k b L last) (hs : w6.heap.size ≤ w'.heap.size) (ho : ∀ i, i ≠ w.heap.size → w'.heap[i]? = w6.heap[i]?) : TabAt w' k b L last := by
  obtain ⟨D, m1, m2⟩ := h.map
  have hlk := h0.ltk
  have hlb := h0.ltb
  exact ⟨(ho k (by omega)).trans h.blk, ⟨D, ownsMap_same m1 (ho b (by omega)), m2⟩, h.rise, fun m hm => (h.each m hm).kept2 hs fun hne x hx hl => ho _ (Nat.ne_of_lt ((h0.each m hm).block_lt hne hx)), h.apart, h.ne, h.last⟩
theorem wrapU {z : Int} (h0 : 0 ≤ z) (h1 : z < 18446744073709551616) : IntKind.u64.wrap z = z := by
  simp only [IntKind.wrap, IntKind.signed, IntKind.bits]
  simp
  omega
theorem jobj_at {W : World} {B : Nat} {j : J} (h : W.heap[B]? = some (jobj j)) (i : Nat) (_ : i < 12) : W.cell? ⟨B, i, none⟩ = j.cells[i]? := cell_of_row _ B i _ _ _ h
/-- how Change ends -/
def ChangePost (w : World) (k b : Nat) (L : List J) (last id : Int) (j : J) (e : Ending) (w' : World) : Prop :=
  ∃ ce L', e = .returned (.int .i64 ce) ∧ TabAt w' k b L' last ∧ Eff k b w w' ∧
    ((findJ L id = none ∧ ce = 5 ∧ L' = L) ∨ ∃ was, findJ L id = some was ∧
      ((ce ≠ 0 ∧ ce = changeE L (j.num id) ∧ L' = L) ∨ (ce = 0 ∧ changeE L (j.num id) = 0 ∧ ∃ da dc, L' = putJ L (((j.num id).keep was).at da dc))))

set_option maxRecDepth 100000 in
set_option maxHeartbeats 4000000 in
theorem change_no {w : World} {k b : Nat} {L : List J} {last : Int} (h : TabAt w k b L last) {id : Int} (hi : U64 id) (hf : findJ L id = none) {j : J} :
    Calls Tryz.prog 11 #[.pointer (some ⟨k, 0, none⟩), .int .u64 id, j.val] w (ChangePost w k b L last id j) := by
  obtain ⟨w0, hw0⟩ : ∃ W, W = w.alloc (.cells j.cs 29) := ⟨_, rfl⟩
  have hb0 : Below w.heap.size w w0 := by rw [hw0]; exact (Below.refl _ _).alloc (Nat.le_refl _) _
  have HTH := Lib.hid (there_no (h.below hb0) hi hf)
  have HW0 := Lib.hid hw0
  have HB0 := Lib.hid hb0
  have HT := Lib.hid h
  have HF := Lib.hid hf
  clear h hf hw0 hb0
  rw [show zeroJ.val = .agg zeroC from rfl] at HTH
  unfold J.val J.cells jcells
  go_enter Tryz.func11, Tryz.ntmps11
  go_wp2_with fail
  rw [← HW0.out]
  refine HTH.out.mono ?_
  rintro e w1 ⟨rfl, hb1⟩
  have hbb : Below w.heap.size w (w1.alloc (.cells zeroC 29)) := (HB0.out.trans (hb1.mono HB0.out.size)).alloc (Nat.le_trans HB0.out.size hb1.size) _
  have HBB := Lib.hid hbb
  have HTB := Lib.hid (HT.out.below hbb)
  clear hb1 hbb HTH
  go_wp2
  go_ret
  exact ⟨5, L, rfl, HTB.out, Eff.of_below HBB.out, .inl ⟨HF.out, rfl, rfl⟩⟩

set_option maxRecDepth 100000 in
set_option maxHeartbeats 8000000 in
theorem change_yes {w : World} {k b : Nat} {L : List J} {last : Int} {n : Nat} (h : TabAt w k b L last) (hk : Kit w) (ho : Ok L last n) (hn : n ≤ 1000) {id : Int} (hi : U64 id) {was : J} (hf : findJ L id = some was) {j : J} (hj : JF w j) (hd : j.deps.length ≤ 12) :
    Calls Tryz.prog 11 #[.pointer (some ⟨k, 0, none⟩), .int .u64 id, j.val] w (ChangePost w k b L last id j) := by
  obtain ⟨w0, hw0⟩ : ∃ W, W = w.alloc (.cells j.cs 29) := ⟨_, rfl⟩
  have hb0 : Below w.heap.size w w0 := by rw [hw0]; exact (Below.refl _ _).alloc (Nat.le_refl _) _
  have hj0 : w0.heap[w.heap.size]? = some (jobj j) := by rw [hw0]; exact heap_alloc_new w _
  have hv := ho.ver was (findJ_mem hf).1
  have HTH := Lib.hid (there_yes (h.below hb0) hi hf)
  have HW0 := Lib.hid hw0
  have HB0 := Lib.hid hb0
  have HJ0 := Lib.hid hj0
  have HT := Lib.hid h
  have HF := Lib.hid hf
  have HK := Lib.hid hk
  have HOK := Lib.hid ho
  have HJF := Lib.hid hj
  have HD := Lib.hid hd
  have HI := Lib.hid hi
  have HV := Lib.hid hv
  have HN := Lib.hid hn
  clear h hf hw0 hb0 hj0 hk ho hj hd hi hv hn
  unfold J.val J.cells jcells at HTH ⊢
  go_enter Tryz.func11, Tryz.ntmps11
  go_wp2_with fail
  rw [← HW0.out]
  refine HTH.out.mono ?_
  rintro e w1 ⟨rfl, hb1⟩
  obtain ⟨w2, hw2⟩ : ∃ W, W = w1.alloc (.cells was.cs 29) := ⟨_, rfl⟩
  obtain ⟨q, hq⟩ : ∃ q, q = w1.heap.size := ⟨_, rfl⟩
  have hs0 : w.heap.size < w1.heap.size := Nat.lt_of_lt_of_le (lt_of_block HJ0.out) hb1.size
  have hb12 : Below w1.heap.size w1 w2 := by rw [hw2]; exact (Below.refl _ _).alloc (Nat.le_refl _) _
  have hb2 : Below w.heap.size w w2 := (HB0.out.trans (hb1.mono HB0.out.size)).trans (hb12.mono (Nat.le_of_lt hs0))
  have hj2 : w2.heap[w.heap.size]? = some (jobj j) := (hb12.block _ hs0).trans ((hb1.block _ (lt_of_block HJ0.out)).trans HJ0.out)
  have hq2 : w2.heap[q]? = some (jobj was) := by rw [hw2, hq]; exact heap_alloc_new w1 _
  have hne : w.heap.size ≠ q := by omega
  obtain ⟨w3, hw3⟩ : ∃ W, W = w2.setCell ⟨w.heap.size, 0, none⟩ (.int .u64 id) := ⟨_, rfl⟩
  have ho3 : ∀ i, i ≠ w.heap.size → w3.heap[i]? = w2.heap[i]? := fun i hi => by rw [hw3]; exact Below.heap_setCell _ _ _ _ hi
  have hs3 : w3.heap.size = w2.heap.size := by rw [hw3]; simp [World.setCell]
  have hb3 : Below w.heap.size w w3 := hb2.trans ⟨by rw [hw3]; rfl, by rw [hw3]; rfl, by rw [hw3]; rfl, by omega, fun i hi => ho3 i (by omega)⟩
  obtain ⟨j1, hj1⟩ : ∃ x, x = j.num id := ⟨_, rfl⟩
  have hjj3 : w3.heap[w.heap.size]? = some (jobj j1) := by
    rw [hw3, hj1]
    simp [World.setCell, Array.getElem?_modify, hj2, jobj, J.cells, jcells, J.num]
  have hq3 : w3.heap[q]? = some (jobj was) := (ho3 q (Ne.symm hne)).trans hq2
  have hjf3 : JF w3 j1 := by rw [hj1]; exact ⟨HI.out, HJF.out.ver, HJF.out.fit, HJF.out.vals.below hb3, HJF.out.none_, HJF.out.cap, HJF.out.big⟩
  have ht3 := HT.out.below hb3
  have hrawj : ((w1.alloc (.cells was.cs 29)).setCell ⟨w.heap.size, 0, none⟩ (.int .u64 id)).heap[w.heap.size]? = some (jobj j1) := by rw [← hw2, ← hw3]; exact hjj3
  obtain ⟨⟨d0, d1, d2, d3, d4, d5⟩, d6, d7, d8, d9, d10, d11⟩ := jobj_cells hrawj
  have hf0 := jfree (show (w1.alloc (.cells was.cs 29)).heap[w.heap.size]? = some (jobj j) by rw [← hw2]; exact hj2) 0
  have hc00 := (jobj_cells (show (w1.alloc (.cells was.cs 29)).heap[w.heap.size]? = some (jobj j) by rw [← hw2]; exact hj2)).1.1
  have HREF := Lib.hid (refuses_any ht3 (HK.out.next hb3) j1)
  have HW2 := Lib.hid hw2
  have HW3 := Lib.hid hw3
  have HB3 := Lib.hid hb3
  have HJ3 := Lib.hid hjj3
  have HQ3 := Lib.hid hq3
  have HT3 := Lib.hid ht3
  have HJF3 := Lib.hid hjf3
  have HD1 := Lib.hid (show j1.deps.length ≤ 12 by rw [hj1]; exact HD.out)
  have HJ1 := Lib.hid hj1
  have HNE := Lib.hid hne
  have HQQ := Lib.hid hq
  clear hw2 hq hs0 hb12 hb2 hj2 hq2 hne hw3 ho3 hs3 hb3 hj1 hjj3 hq3 hjf3 ht3 hrawj hb1 HTH
  unfold J.val J.cells jcells at HREF
  go_wp2_with fail
  rw [← HW2.out, ← HW3.out, ← HQQ.out]
  refine HREF.out.mono ?_
  rintro e w4 ⟨rfl, hb4⟩
  clear d0 d1 d2 d3 d4 d5 d6 d7 d8 d9 d10 d11 hf0 hc00
  have HB4 := Lib.hid (HB3.out.trans (hb4.mono HB3.out.size))
  have HT4 := Lib.hid (HT3.out.below hb4)
  by_cases hr : refJ L j1 = 0
  · rw [hr]
    have HE0 := Lib.hid (show changeE L j1 = Gr.mayOf (withJ L j1) by unfold changeE; rw [if_neg (by simp [hr])])
    have hj4 := (hb4.block _ (lt_of_block HJ3.out)).trans HJ3.out
    have hq4 := (hb4.block _ (lt_of_block HQ3.out)).trans HQ3.out
    obtain ⟨⟨d0, d1, d2, d3, d4, d5⟩, d6, d7, d8, d9, d10, d11⟩ := jobj_cells hj4
    have HJ4 := Lib.hid hj4
    have HQ4 := Lib.hid hq4
    have HWI := Lib.hid (rowWith_any HT4.out (HOK.out.deps (by omega)) (by have := HOK.out.len; omega) (HJF3.out.below hb4))
    clear hb4 hj4 hq4 hr HREF
    unfold J.val J.cells jcells at HWI
    go_wp2_with fail
    refine HWI.out.mono ?_
    rintro e w5 ⟨v, l, rfl, hrow, hof, hnf, hb5⟩
    obtain ⟨va, vc, rfl, -⟩ := ownRow_shape hrow.own
    have HMAY := Lib.hid (mayWith_any hrow hnf HOK.out HD1.out hof)
    have HB5 := Lib.hid hb5
    clear hrow hof hnf hb5 HWI d0 d1 d2 d3 d4 d5 d6 d7 d8 d9 d10 d11
    go_wp2_with fail
    refine HMAY.out.mono ?_
    rintro e w6 ⟨rfl, hb6⟩
    rw [← HE0.out]
    have hb46 := HB5.out.trans (hb6.mono HB5.out.size)
    have HJ6 := Lib.hid ((hb46.block _ (lt_of_block HJ4.out)).trans HJ4.out)
    have HQ6 := Lib.hid ((hb46.block _ (lt_of_block HQ4.out)).trans HQ4.out)
    have HB6 := Lib.hid (HB4.out.trans (hb46.mono HB4.out.size))
    have HT6 := Lib.hid (HT4.out.below hb46)
    clear hb6 hb46 HB5 HMAY
    by_cases hz : changeE L j1 = 0
    · rw [hz]
      have HZ := Lib.hid (show changeE L (j.num id) = 0 by rw [← HJ1.out]; exact hz)
      clear hz
      go_wp2_with fail
      have hv0 := HV.out.1
      have hv1 : was.ver ≤ 100000 := by have := HV.out.2; have := HN.out; omega
      have hwrap : IntKind.u64.wrap (was.ver + 1) = was.ver + 1 := wrapU (by omega) (by omega)
      have hbound0 : 0 ≤ was.ver + 1 := by omega
      refine wp_region_held_drew (S := fun W => W.heap[q]? = some (jobj was)) (by kernel_rfl) HQ6.out (fun hHeld => ?_)
      obtain ⟨u0, hu0⟩ : ∃ W, W = w6.drew := ⟨_, rfl⟩
      have hju0 : u0.heap[w.heap.size]? = some (jobj j1) := by rw [hu0]; exact HJ6.out
      have hqu0 : u0.heap[q]? = some (jobj was) := by rw [hu0]; exact HQ6.out
      rw [← hu0] at hHeld ⊢
      have HU0 := Lib.hid hu0
      clear hu0
      refine wpAnyH_take (i := 0) (oi := ?_) (v := ?_) ?_ (by kernel_rfl) (by kernel_rfl) (by kernel_rfl) ?_ (Or.inl ⟨?_, ?_⟩) (by assumption) ?_
      rotate_left 2
      focus (simp only [List.getElem?_toArray, List.getElem?_cons_zero]; rfl)
      focus exact fun _ _ _ h => h
      focus rfl
      focus (intro W hS; (try dsimp only at hS); obtain ⟨⟨k0, k1, k2, k3, k4, k5⟩, k6, k7, k8, k9, k10, k11⟩ := jobj_cells hS; go_simp; (try with_reducible rfl))
      try simp only [Act.put]
      try simp only [List.setIfInBounds_toArray]
      try simp only [List.set_cons_succ]
      try simp only [List.set_cons_zero]
      refine wpAnyH_take (i := 1) (oi := ?_) (v := ?_) ?_ (by kernel_rfl) (by kernel_rfl) (by kernel_rfl) ?_ (Or.inl ⟨?_, ?_⟩) (by assumption) ?_
      rotate_left 2
      focus (simp only [List.getElem?_toArray, List.getElem?_cons_succ, List.getElem?_cons_zero]; rfl)
      focus exact fun _ _ _ h => h
      focus rfl
      focus (intro W hS; (try dsimp only at hS); obtain ⟨⟨k0, k1, k2, k3, k4, k5⟩, k6, k7, k8, k9, k10, k11⟩ := jobj_cells hS; go_simp; (try with_reducible rfl))
      try simp only [Act.put]
      try simp only [List.setIfInBounds_toArray]
      try simp only [List.set_cons_succ]
      try simp only [List.set_cons_zero]
      refine wpAnyH_take (i := 2) (oi := ?_) (v := ?_) ?_ (by kernel_rfl) (by kernel_rfl) (by kernel_rfl) ?_ (Or.inl ⟨?_, ?_⟩) (by assumption) ?_
      rotate_left 2
      focus (simp only [List.getElem?_toArray, List.getElem?_cons_succ, List.getElem?_cons_zero]; rfl)
      focus exact fun _ _ _ h => h
      focus rfl
      focus (intro W hS; (try dsimp only at hS); obtain ⟨⟨k0, k1, k2, k3, k4, k5⟩, k6, k7, k8, k9, k10, k11⟩ := jobj_cells hS; go_simp; (try with_reducible rfl))
      try simp only [Act.put]
      try simp only [List.setIfInBounds_toArray]
      try simp only [List.set_cons_succ]
      try simp only [List.set_cons_zero]
      refine wpAnyH_take (i := 3) (oi := ?_) (v := ?_) ?_ (by kernel_rfl) (by kernel_rfl) (by kernel_rfl) ?_ (Or.inl ⟨?_, ?_⟩) (by assumption) ?_
      rotate_left 2
      focus (simp only [List.getElem?_toArray, List.getElem?_cons_succ, List.getElem?_cons_zero]; rfl)
      focus exact fun _ _ _ h => h
      focus rfl
      focus (intro W hS; (try dsimp only at hS); obtain ⟨⟨k0, k1, k2, k3, k4, k5⟩, k6, k7, k8, k9, k10, k11⟩ := jobj_cells hS; go_simp; (try with_reducible rfl))
      try simp only [Act.put]
      try simp only [List.setIfInBounds_toArray]
      try simp only [List.set_cons_succ]
      try simp only [List.set_cons_zero]
      refine wpAnyH_take (i := 4) (oi := ?_) (v := ?_) ?_ (by kernel_rfl) (by kernel_rfl) (by kernel_rfl) ?_ (Or.inl ⟨?_, ?_⟩) (by assumption) ?_
      rotate_left 2
      focus (simp only [List.getElem?_toArray, List.getElem?_cons_succ, List.getElem?_cons_zero]; rfl)
      focus exact fun _ _ _ h => h
      focus rfl
      focus (intro W hS; (try dsimp only at hS); obtain ⟨⟨k0, k1, k2, k3, k4, k5⟩, k6, k7, k8, k9, k10, k11⟩ := jobj_cells hS; go_simp; (try with_reducible rfl))
      try simp only [Act.put]
      try simp only [List.setIfInBounds_toArray]
      try simp only [List.set_cons_succ]
      try simp only [List.set_cons_zero]
      refine wpAnyH_take (i := 5) (oi := ?_) (v := ?_) ?_ (by kernel_rfl) (by kernel_rfl) (by kernel_rfl) ?_ (Or.inl ⟨?_, ?_⟩) (by assumption) ?_
      rotate_left 2
      focus (simp only [List.getElem?_toArray, List.getElem?_cons_succ, List.getElem?_cons_zero]; rfl)
      focus exact fun _ _ _ h => h
      focus rfl
      focus (intro W hS; (try dsimp only at hS); obtain ⟨⟨k0, k1, k2, k3, k4, k5⟩, k6, k7, k8, k9, k10, k11⟩ := jobj_cells hS; go_simp; (try with_reducible rfl))
      try simp only [Act.put]
      try simp only [List.setIfInBounds_toArray]
      try simp only [List.set_cons_succ]
      try simp only [List.set_cons_zero]
      refine wpAnyH_take (i := 6) (oi := ?_) (v := ?_) ?_ (by kernel_rfl) (by kernel_rfl) (by kernel_rfl) ?_ (Or.inl ⟨?_, ?_⟩) (by assumption) ?_
      rotate_left 2
      focus (simp only [List.getElem?_toArray, List.getElem?_cons_succ, List.getElem?_cons_zero]; rfl)
      focus exact fun _ _ _ h => h
      focus rfl
      focus (intro W hS; (try dsimp only at hS); obtain ⟨⟨k0, k1, k2, k3, k4, k5⟩, k6, k7, k8, k9, k10, k11⟩ := jobj_cells hS; go_simp; (try with_reducible rfl))
      try simp only [Act.put]
      try simp only [List.setIfInBounds_toArray]
      try simp only [List.set_cons_succ]
      try simp only [List.set_cons_zero]
      refine wpAnyH_take (i := 7) (oi := ?_) (v := ?_) ?_ (by kernel_rfl) (by kernel_rfl) (by kernel_rfl) ?_ (Or.inl ⟨?_, ?_⟩) (by assumption) ?_
      rotate_left 2
      focus (simp only [List.getElem?_toArray, List.getElem?_cons_succ, List.getElem?_cons_zero]; rfl)
      focus exact fun _ _ _ h => h
      focus rfl
      focus (intro W hS; (try dsimp only at hS); obtain ⟨⟨k0, k1, k2, k3, k4, k5⟩, k6, k7, k8, k9, k10, k11⟩ := jobj_cells hS; go_simp; (try with_reducible rfl))
      try simp only [Act.put]
      try simp only [List.setIfInBounds_toArray]
      try simp only [List.set_cons_succ]
      try simp only [List.set_cons_zero]
      refine wpAnyH_ready (rs := [8]) (by kernel_rfl) (by simp) ?_
      refine AllReadyH.cons (o := ?_) ?_ (fun K hK => ?_) AllReadyH.nil
      rotate_left
      focus (simp only [List.getElem?_toArray, List.getElem?_cons_succ, List.getElem?_cons_zero]; rfl)
      rw [if_pos (by rfl)]
      have hfr := jfree hju0 9
      have hce := jobj_at hju0 9 (by decide)
      simp only [J.cells, jcells, List.getElem?_toArray, List.getElem?_cons_zero, List.getElem?_cons_succ] at hce
      go_simp
      obtain ⟨u1, hu1⟩ : ∃ W, W = u0.setCell ⟨w.heap.size, 9, none⟩ (.bool was.pau) := ⟨_, rfl⟩
      have hju1 : u1.heap[w.heap.size]? = some (jobj { j1 with pau := was.pau }) := by
        rw [hu1]
        simp [World.setCell, Array.getElem?_modify, hju0, jobj, J.cells, jcells]
      have hqu1 : u1.heap[q]? = some (jobj was) := by rw [hu1]; exact (Below.heap_setCell u0 ⟨w.heap.size, 9, none⟩ (.bool was.pau) q (Ne.symm HNE.out)).trans hqu0
      have hou1 : ∀ i, i ≠ w.heap.size → u1.heap[i]? = u0.heap[i]? := fun i hi => by rw [hu1]; exact Below.heap_setCell _ _ _ _ hi
      have hsu1 : u1.heap.size = u0.heap.size := by rw [hu1]; simp [World.setCell]
      have hbu1 : Below w.heap.size u0 u1 := ⟨by rw [hu1]; rfl, by rw [hu1]; rfl, by rw [hu1]; rfl, by omega, fun i hi => hou1 i (by omega)⟩
      have HOu1 := Lib.hid hou1
      have HSu1 := Lib.hid hsu1
      have HBu1 := Lib.hid hbu1
      rw [← hu1]
      clear hfr hce hu1 hou1 hsu1 hbu1
      refine hK.out _ _ hqu1 (fun hHeld => ?_)
      clear hK K
      try simp only [Act.put]
      try simp only [List.setIfInBounds_toArray]
      try simp only [List.set_cons_succ]
      try simp only [List.set_cons_zero]
      refine wpAnyH_take (i := 9) (oi := ?_) (v := ?_) ?_ (by kernel_rfl) (by kernel_rfl) (by kernel_rfl) ?_ (Or.inl ⟨?_, ?_⟩) (by assumption) ?_
      rotate_left 2
      focus (simp only [List.getElem?_toArray, List.getElem?_cons_succ, List.getElem?_cons_zero]; rfl)
      focus exact fun _ _ _ h => h
      focus rfl
      focus (intro W hS; (try dsimp only at hS); obtain ⟨⟨k0, k1, k2, k3, k4, k5⟩, k6, k7, k8, k9, k10, k11⟩ := jobj_cells hS; go_simp; (try with_reducible rfl))
      try simp only [Act.put]
      try simp only [List.setIfInBounds_toArray]
      try simp only [List.set_cons_succ]
      try simp only [List.set_cons_zero]
      refine wpAnyH_ready (rs := [10]) (by kernel_rfl) (by simp) ?_
      refine AllReadyH.cons (o := ?_) ?_ (fun K hK => ?_) AllReadyH.nil
      rotate_left
      focus (simp only [List.getElem?_toArray, List.getElem?_cons_succ, List.getElem?_cons_zero]; rfl)
      rw [if_pos (by rfl)]
      have hfr := jfree hju1 11
      have hce := jobj_at hju1 11 (by decide)
      simp only [J.cells, jcells, List.getElem?_toArray, List.getElem?_cons_zero, List.getElem?_cons_succ] at hce
      go_simp
      obtain ⟨u2, hu2⟩ : ∃ W, W = u1.setCell ⟨w.heap.size, 11, none⟩ (.int .i64 was.seen) := ⟨_, rfl⟩
      have hju2 : u2.heap[w.heap.size]? = some (jobj { j1 with pau := was.pau, seen := was.seen }) := by
        rw [hu2]
        simp [World.setCell, Array.getElem?_modify, hju1, jobj, J.cells, jcells]
      have hqu2 : u2.heap[q]? = some (jobj was) := by rw [hu2]; exact (Below.heap_setCell u1 ⟨w.heap.size, 11, none⟩ (.int .i64 was.seen) q (Ne.symm HNE.out)).trans hqu1
      have hou2 : ∀ i, i ≠ w.heap.size → u2.heap[i]? = u1.heap[i]? := fun i hi => by rw [hu2]; exact Below.heap_setCell _ _ _ _ hi
      have hsu2 : u2.heap.size = u1.heap.size := by rw [hu2]; simp [World.setCell]
      have hbu2 : Below w.heap.size u1 u2 := ⟨by rw [hu2]; rfl, by rw [hu2]; rfl, by rw [hu2]; rfl, by omega, fun i hi => hou2 i (by omega)⟩
      have HOu2 := Lib.hid hou2
      have HSu2 := Lib.hid hsu2
      have HBu2 := Lib.hid hbu2
      rw [← hu2]
      clear hfr hce hu2 hou2 hsu2 hbu2
      refine hK.out _ _ hqu2 (fun hHeld => ?_)
      clear hK K
      try simp only [Act.put]
      try simp only [List.setIfInBounds_toArray]
      try simp only [List.set_cons_succ]
      try simp only [List.set_cons_zero]
      refine wpAnyH_take (i := 11) (oi := ?_) (v := ?_) ?_ (by kernel_rfl) (by kernel_rfl) (by kernel_rfl) ?_ (Or.inl ⟨?_, ?_⟩) (by assumption) ?_
      rotate_left 2
      focus (simp only [List.getElem?_toArray, List.getElem?_cons_succ, List.getElem?_cons_zero]; rfl)
      focus exact fun _ _ _ h => h
      focus rfl
      focus (intro W hS; (try dsimp only at hS); obtain ⟨⟨k0, k1, k2, k3, k4, k5⟩, k6, k7, k8, k9, k10, k11⟩ := jobj_cells hS; go_simp; (try with_reducible rfl))
      try simp only [Act.put]
      try simp only [List.setIfInBounds_toArray]
      try simp only [List.set_cons_succ]
      try simp only [List.set_cons_zero]
      refine wpAnyH_ready (rs := [12]) (by kernel_rfl) (by simp) ?_
      refine AllReadyH.cons (o := ?_) ?_ (fun K hK => ?_) AllReadyH.nil
      rotate_left
      focus (simp only [List.getElem?_toArray, List.getElem?_cons_succ, List.getElem?_cons_zero]; rfl)
      rw [if_pos (by rfl)]
      have hfr := jfree hju2 10
      have hce := jobj_at hju2 10 (by decide)
      simp only [J.cells, jcells, List.getElem?_toArray, List.getElem?_cons_zero, List.getElem?_cons_succ] at hce
      go_simp
      obtain ⟨u3, hu3⟩ : ∃ W, W = u2.setCell ⟨w.heap.size, 10, none⟩ (.int .u64 (was.ver + 1)) := ⟨_, rfl⟩
      have hju3 : u3.heap[w.heap.size]? = some (jobj (j1.keep was)) := by
        rw [hu3]
        simp [World.setCell, Array.getElem?_modify, hju2, jobj, J.cells, jcells, J.keep]
      have hqu3 : u3.heap[q]? = some (jobj was) := by rw [hu3]; exact (Below.heap_setCell u2 ⟨w.heap.size, 10, none⟩ (.int .u64 (was.ver + 1)) q (Ne.symm HNE.out)).trans hqu2
      have hou3 : ∀ i, i ≠ w.heap.size → u3.heap[i]? = u2.heap[i]? := fun i hi => by rw [hu3]; exact Below.heap_setCell _ _ _ _ hi
      have hsu3 : u3.heap.size = u2.heap.size := by rw [hu3]; simp [World.setCell]
      have hbu3 : Below w.heap.size u2 u3 := ⟨by rw [hu3]; rfl, by rw [hu3]; rfl, by rw [hu3]; rfl, by omega, fun i hi => hou3 i (by omega)⟩
      have HOu3 := Lib.hid hou3
      have HSu3 := Lib.hid hsu3
      have HBu3 := Lib.hid hbu3
      rw [← hu3]
      clear hfr hce hu3 hou3 hsu3 hbu3
      refine hK.out _ _ hqu3 (fun hHeld => ?_)
      clear hK K
      try simp only [Act.put]
      try simp only [List.setIfInBounds_toArray]
      try simp only [List.set_cons_succ]
      try simp only [List.set_cons_zero]
      refine wpAnyH_done (by kernel_rfl) ?_ _
      clear hHeld
      have hbu3 : Below w.heap.size w u3 := ((HB6.out.trans (show Below w.heap.size w6 u0 by rw [HU0.out]; exact (Below.refl _ _).drew)).trans (HBu1.out.trans (HBu2.out.trans HBu3.out)))
      have hou3 : ∀ i, i ≠ w.heap.size → u3.heap[i]? = w6.heap[i]? := fun i hi => by rw [HOu3.out i hi, HOu2.out i hi, HOu1.out i hi, HU0.out]; rfl
      have hsu3 : w6.heap.size ≤ u3.heap.size := by rw [HSu3.out, HSu2.out, HSu1.out, HU0.out]; exact Nat.le_refl _
      have htu3 := HT.out.but HT6.out hsu3 hou3
      obtain ⟨j2, hj2⟩ : ∃ x, x = j1.keep was := ⟨_, rfl⟩
      rw [← hj2] at hju3
      have hj2id : j2.id = id := by rw [hj2, HJ1.out]; rfl
      have hjf : JF u3 j2 := by
        rw [hj2, HJ1.out]
        exact ⟨HI.out, show U64 (was.ver + 1) from ⟨by omega, by omega⟩, HJF.out.fit, HJF.out.vals.below hbu3, HJF.out.none_, HJF.out.cap, HJF.out.big⟩
      have hput := put_any htu3 hjf (by rw [hj2]; have := HD1.out; show j1.deps.length ≤ 1000000; omega) (.inl (by rw [hj2id, HF.out]; rfl)) (by have := HOK.out.len; omega)
      obtain ⟨⟨d0, d1, d2, d3, d4, d5⟩, d6, d7, d8, d9, d10, d11⟩ := jobj_cells hju3
      have HPUT := Lib.hid hput
      have HBU3 := Lib.hid hbu3
      have HJ2 := Lib.hid hj2
      clear hput hjf hj2id hju3 htu3 hou3 hsu3 hbu3 hj2 hju2 hju1 hju0 hqu3 hqu2 hqu1 hqu0 hwrap hbound0 hv0 hv1
      unfold J.val J.cells jcells at HPUT
      go_wp2_with fail
      refine HPUT.out.mono ?_
      rintro e w7 ⟨rfl, ⟨da, dc, ht7⟩, hf7⟩
      have HT7 := Lib.hid ht7
      have HF7 := Lib.hid ((Eff.of_below (k := k) (b := b) HBU3.out).trans hf7)
      clear ht7 hf7 HPUT d0 d1 d2 d3 d4 d5 d6 d7 d8 d9 d10 d11
      go_wp2
      go_ret
      refine ⟨0, _, rfl, HT7.out, HF7.out, .inr ⟨was, HF.out, .inr ⟨rfl, HZ.out, da, dc, ?_⟩⟩⟩
      rw [HJ2.out, HJ1.out]
    · have HE2 := Lib.hid (show changeE L (j.num id) = changeE L j1 by rw [← HJ1.out])
      have HNZ := Lib.hid hz
      obtain ⟨z, hzz⟩ : ∃ z, z = changeE L j1 := ⟨_, rfl⟩
      rw [← hzz] at HE2 HNZ hz ⊢
      have hzb : (z != 0) = true := by simpa using hz
      clear hz hzz
      go_wp2
      go_ret
      exact ⟨z, L, rfl, HT6.out, Eff.of_below HB6.out, .inr ⟨was, HF.out, .inl ⟨HNZ.out, HE2.out.symm, rfl⟩⟩⟩
  · have hz : changeE L j1 = refJ L j1 := by unfold changeE; rw [if_pos hr]
    rw [← hz] at hr ⊢
    have HE2 := Lib.hid (show changeE L (j.num id) = changeE L j1 by rw [← HJ1.out])
    have HNZ := Lib.hid hr
    obtain ⟨z, hzz⟩ : ∃ z, z = changeE L j1 := ⟨_, rfl⟩
    rw [← hzz] at HE2 HNZ hr ⊢
    have hzb : (z != 0) = true := by simpa using hr
    clear hb4 hr hz hzz HREF
    go_wp2
    go_ret
    exact ⟨z, L, rfl, HT4.out, Eff.of_below HB4.out, .inr ⟨was, HF.out, .inl ⟨HNZ.out, HE2.out.symm, rfl⟩⟩⟩
end Go.Proofs.YtpbnjibomdilhaaGreatDoor.Job
