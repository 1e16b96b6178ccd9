/- The table's small calls, by their contracts. Find, told, put, only, refuses, by their contracts. -/
import Derived.Test.YtpbnjibomdilhaaGreatDoorTabB
import Derived.Test.YtpbnjibomdilhaaGreatDoorMam
namespace Go.Proofs.YtpbnjibomdilhaaGreatDoor.Job
open Go.RowKit Go.Maps

theorem eqlSome (bm : Nat) (w : World) : (binOp .eql 53 (.map (some bm)) (.map none)).run Tryz.prog w = .ok (.bool false) w := by kernel_rfl
section
variable {w : World} {k b : Nat} {L : List J} {last : Int}
set_option maxRecDepth 100000 in
theorem isNone_no (h : TabAt w k b L last) : Calls Tryz.prog 20 #[.pointer (some ⟨k, 0, none⟩)] w fun e w' => e = .returned (.bool false) ∧ w = w' := by
  obtain ⟨c0, c1⟩ := h.cells
  clear h
  have he := eqlSome b w
  go_enter Tryz.func20, Tryz.ntmps20
  go_wp2
  go_ret
  exact ⟨by simp, rfl⟩
set_option maxRecDepth 100000 in
theorem last_any (h : TabAt w k b L last) : Calls Tryz.prog 8 #[.pointer (some ⟨k, 0, none⟩)] w fun e w' => e = .returned (.int .u64 last) ∧ w = w' := by
  obtain ⟨c0, c1⟩ := h.cells
  have H := Lib.hid (isNone_no h)
  clear h
  go_enter Tryz.func8, Tryz.ntmps8
  go_wp2_with fail
  refine H.out.mono ?_
  rintro e w1 ⟨rfl, rfl⟩
  go_wp2
  go_ret
  exact ⟨rfl, rfl⟩
set_option maxRecDepth 100000 in
theorem isFull_any (h : TabAt w k b L last) : Calls Tryz.prog 26 #[.pointer (some ⟨k, 0, none⟩)] w fun e w' => e = .returned (.bool (decide (32 ≤ L.length))) ∧ w = w' := by
  obtain ⟨c0, c1⟩ := h.cells
  have hl := h.len 3
  obtain ⟨n, hn⟩ : ∃ n, n = L.length := ⟨_, rfl⟩
  rw [← hn] at hl ⊢
  clear h hn
  by_cases h32 : 32 ≤ n
  · have hd : decide ((32 : Int) ≤ (n : Int)) = true := by simp; omega
    have hd2 : decide (32 ≤ n) = true := by simp; omega
    rw [hd2]
    go_enter Tryz.func26, Tryz.ntmps26
    go_wp2
    go_ret
    exact ⟨by first | rfl | simp, rfl⟩
  · have hd : decide ((32 : Int) ≤ (n : Int)) = false := by simp; omega
    have hd2 : decide (32 ≤ n) = false := by simp; omega
    rw [hd2]
    go_enter Tryz.func26, Tryz.ntmps26
    go_wp2
    go_ret
    exact ⟨by first | rfl | simp, rfl⟩
end

/-- a job's block written -/
theorem setJob {W : World} {B : Nat} {j0 : J} (j : J) (h : W.heap[B]? = some (jobj j0)) : (W.setRow B j.cs).heap[B]? = some (jobj j) := setRow_heap _ _ _ _ _ _ h
theorem below_row {B0 B : Nat} (W : World) (cs : Array Value) (h : B0 ≤ B) : Below B0 W (W.setRow B cs) := ⟨rfl, rfl, rfl, by rw [setRow_size]; exact Nat.le_refl _, fun k hk => setRow_other _ _ _ _ (by omega)⟩

def seenB (s : Int) : Bool := decide (-1 ≤ s) && decide (s < 13569465600)
theorem isSeen_any (s : Int) (w : World) : Calls Tryz.prog 30 #[.int .i64 s] w fun e w' => e = .returned (.bool (seenB s)) ∧ w = w' := by
  unfold seenB
  by_cases h1 : -1 ≤ s
  · have d1 : decide (-1 ≤ s) = true := decide_eq_true h1
    rw [d1, Bool.true_and]
    go_enter Tryz.func30, Tryz.ntmps30
    go_wp2
    go_ret
    exact ⟨by first | rfl | simp, rfl⟩
  · have d1 : decide (-1 ≤ s) = false := decide_eq_false h1
    rw [d1, Bool.false_and]
    go_enter Tryz.func30, Tryz.ntmps30
    go_wp2
    go_ret
    exact ⟨by first | rfl | simp, rfl⟩

set_option maxRecDepth 100000 in
/-- a new table -/
theorem new_any (w : World) : Calls Tryz.prog 5 #[] w fun e w' => e = .returned (.pointer (some ⟨w.heap.size + 1, 0, none⟩)) ∧ TabAt w' (w.heap.size + 1) w.heap.size [] 0 ∧ Below w.heap.size w w' := by
  have HT := Lib.hid (TabAt.made w rfl)
  have hmm := @run_makeMap Tryz.prog
  go_enter Tryz.func5, Tryz.ntmps5
  go_wp2
  clear hmm
  go_ret
  exact ⟨rfl, HT.out, ((Below.refl _ _).alloc (Nat.le_refl _) _).alloc (by simp) _⟩

set_option maxRecDepth 100000 in
theorem node_any (j : J) (w : World) : Calls Tryz.prog 36 #[j.val] w fun e w' => e = .returned (.agg #[.int .u64 j.id, .slice j.da j.deps.length j.dc]) ∧ Below w.heap.size w w' := by
  unfold J.val J.cells jcells
  go_enter Tryz.func36, Tryz.ntmps36
  go_wp2
  exact bodyPost_ret (v := .agg #[.int .u64 j.id, .slice j.da j.deps.length j.dc]) (by simp [results, Tryz.results36, go_sem]) rfl ⟨rfl, ((Below.refl _ _).alloc (Nat.le_refl _) _).alloc (by simp) _⟩

set_option maxRecDepth 100000 in
set_option maxHeartbeats 1000000 in
theorem there_yes {w : World} {k b : Nat} {L : List J} {last : Int} (h : TabAt w k b L last) {id : Int} (hi : U64 id) {j : J} (hf : findJ L id = some j) :
    Calls Tryz.prog 24 #[.pointer (some ⟨k, 0, none⟩), .int .u64 id] w fun e w' => e = .returned (.tuple #[j.val, .int .i64 0]) ∧ Below w.heap.size w w' := by
  obtain ⟨w0, hw0⟩ : ∃ W, W = w.alloc (.cells zeroC 29) := ⟨_, rfl⟩
  have hb0 : Below w.heap.size w w0 := by rw [hw0]; exact (Below.refl _ _).alloc (Nat.le_refl _) _
  have hz0 : w0.heap[w.heap.size]? = some (jobj zeroJ) := by rw [hw0]; exact heap_alloc_new w _
  have h0 := h.below hb0
  obtain ⟨c0, c1⟩ := h0.cells
  have HN := Lib.hid (isNone_no h0)
  have hl := h0.look hi
  rw [hf] at hl
  have HW0 := Lib.hid hw0
  have HB0 := Lib.hid hb0
  have HZ0 := Lib.hid hz0
  clear h h0 hf hw0 hb0 hz0
  simp only [Option.getD_some, Option.isSome_some] at hl
  unfold J.val J.cells jcells at hl ⊢
  go_enter Tryz.func24, Tryz.ntmps24
  go_wp2_with fail
  rw [← HW0.out]
  refine HN.out.mono ?_
  rintro e w1 ⟨rfl, rfl⟩
  have hs0 : w.heap.size < w0.heap.size := lt_of_block HZ0.out
  have HS0 := Lib.hid hs0
  clear hs0
  go_wp2_with (refine wpList_store_row rfl 29 _ _ rfl w.heap.size j.cs rfl rfl 29 zeroJ.cells ?hz (by kernel_rfl) rfl (by kernel_rfl) ?_)
  case hz => exact (Below.heap_alloc _ _ _ HS0.out).trans HZ0.out
  obtain ⟨⟨d0, d1, d2, d3, d4, d5⟩, d6, d7, d8, d9, d10, d11⟩ := jobj_cells (setJob j ((Below.heap_alloc w0 (.cells j.cs 29) _ HS0.out).trans HZ0.out))
  refine bodyPost_ret (v := .tuple #[j.val, .int .i64 0]) (by simp [results, Tryz.results24, go_sem, d0, d1, d2, d3, d4, d5, d6, d7, d8, d9, d10, d11, J.val, J.cells, jcells]) rfl ?_
  exact ⟨rfl, (HB0.out.alloc (Nat.le_of_lt HS0.out) _).trans (below_row _ _ (Nat.le_refl _))⟩
end Go.Proofs.YtpbnjibomdilhaaGreatDoor.Job

namespace Go.Proofs.YtpbnjibomdilhaaGreatDoor.Job
open Go.RowKit Go.Maps

set_option maxRecDepth 100000 in
set_option maxHeartbeats 1000000 in
theorem there_no {w : World} {k b : Nat} {L : List J} {last : Int} (h : TabAt w k b L last) {id : Int} (hi : U64 id) (hf : findJ L id = none) :
    Calls Tryz.prog 24 #[.pointer (some ⟨k, 0, none⟩), .int .u64 id] w fun e w' => e = .returned (.tuple #[zeroJ.val, .int .i64 5]) ∧ Below w.heap.size w w' := by
  obtain ⟨w0, hw0⟩ : ∃ W, W = w.alloc (.cells zeroC 29) := ⟨_, rfl⟩
  have hb0 : Below w.heap.size w w0 := by rw [hw0]; exact (Below.refl _ _).alloc (Nat.le_refl _) _
  have hz0 : w0.heap[w.heap.size]? = some (jobj zeroJ) := by rw [hw0]; exact heap_alloc_new w _
  have h0 := h.below hb0
  obtain ⟨c0, c1⟩ := h0.cells
  have HN := Lib.hid (isNone_no h0)
  have hl := h0.look hi
  rw [hf] at hl
  have HW0 := Lib.hid hw0
  have HB0 := Lib.hid hb0
  have HZ0 := Lib.hid hz0
  clear h h0 hf hw0 hb0 hz0
  simp only [Option.getD_none, Option.isSome_none] at hl
  rw [show zeroJ.val = .agg zeroC from rfl] at hl ⊢
  go_enter Tryz.func24, Tryz.ntmps24
  go_wp2_with fail
  rw [← HW0.out]
  refine HN.out.mono ?_
  rintro e w1 ⟨rfl, rfl⟩
  have hs0 : w.heap.size < w0.heap.size := lt_of_block HZ0.out
  have HS0 := Lib.hid hs0
  clear hs0
  go_wp2_with (refine wpList_store_row rfl 29 _ _ rfl w.heap.size zeroC rfl rfl 29 zeroJ.cells ?hz (by kernel_rfl) rfl (by kernel_rfl) ?_)
  case hz => exact (Below.heap_alloc _ _ _ HS0.out).trans HZ0.out
  obtain ⟨⟨d0, d1, d2, d3, d4, d5⟩, d6, d7, d8, d9, d10, d11⟩ := jobj_cells (setJob zeroJ ((Below.heap_alloc w0 (.cells zeroC 29) _ HS0.out).trans HZ0.out))
  rw [show zeroJ.cs = zeroC from rfl] at d0 d1 d2 d3 d4 d5 d6 d7 d8 d9 d10 d11
  refine bodyPost_ret (v := .tuple #[.agg zeroC, .int .i64 5]) (by simp [results, Tryz.results24, go_sem, d0, d1, d2, d3, d4, d5, d6, d7, d8, d9, d10, d11, zeroJ, emp]) rfl ?_
  exact ⟨rfl, (HB0.out.alloc (Nat.le_of_lt HS0.out) _).trans (below_row _ _ (Nat.le_refl _))⟩

/-- what told gives: the job, its Deps elsewhere -/
def Told1 (j : J) (B : Nat) (v : Value) (w' : World) : Prop := ∃ da dc, v = (j.at da dc).val ∧ JF w' (j.at da dc) ∧ ∀ x, da = some x → B ≤ x.block ∧ x.block < w'.heap.size
set_option maxRecDepth 100000 in
set_option maxHeartbeats 1000000 in
theorem told_any {j : J} {w : World} (hj : JF w j) (hd : j.deps.length ≤ 1000000) : Calls Tryz.prog 23 #[j.val] w fun e w' => ∃ v, e = .returned v ∧ Told1 j w.heap.size v w' ∧ Below w.heap.size w w' := by
  obtain ⟨w2, hw2⟩ : ∃ W, W = (w.alloc (.cells j.cs 29)).alloc (.cells zeroC 29) := ⟨_, rfl⟩
  have hb2 : Below w.heap.size w w2 := by rw [hw2]; exact ((Below.refl _ _).alloc (Nat.le_refl _) _).alloc (by simp) _
  have hs2 : w2.heap.size = w.heap.size + 2 := by rw [hw2]; simp
  have hj2 : w2.heap[w.heap.size]? = some (jobj j) := by rw [hw2]; exact (Below.heap_alloc _ _ _ (by simp)).trans (heap_alloc_new w _)
  have hz2 : w2.heap[w.heap.size + 1]? = some (jobj zeroJ) := by
    rw [hw2]
    have := heap_alloc_new (w.alloc (.cells j.cs 29)) (.cells zeroC 29)
    rw [show (w.alloc (.cells j.cs 29)).heap.size = w.heap.size + 1 by simp] at this
    exact this
  obtain ⟨v', w3, hrun, hown, hg, hlies⟩ := run_app (P := Tryz.prog) (B := w2.heap.size) Tryz.underlying27 infoU64 (by rfl) (by omega) (World.ownsRow_nil w2 w2.heap.size 26 1) (Nat.le_refl _) (hj.below hb2).vals (by simp) hj.none_ (one_u _) (by simp; omega)
  obtain ⟨a, c, rfl, ha, hc, hm, hv, hl⟩ := own_shape hown
  simp only [List.nil_append, Nat.zero_add] at hrun hown ha hc hv hl hlies
  have hb3 : Below w2.heap.size w2 w3 := ⟨hg.os, hg.tape, hg.output, hg.size, fun i hi => hg.block i hi (by simp [Value.ownBlock])⟩
  have hj3 : w3.heap[w.heap.size]? = some (jobj j) := (hb3.block _ (by omega)).trans hj2
  have hz3 : w3.heap[w.heap.size + 1]? = some (jobj zeroJ) := (hb3.block _ (by omega)).trans hz2
  obtain ⟨w4, hw4⟩ : ∃ W, W = w3.setCell ⟨w.heap.size, 8, none⟩ (.slice a j.deps.length c) := ⟨_, rfl⟩
  have hs4 : w4.heap.size = w3.heap.size := by rw [hw4]; simp [World.setCell]
  have hj4 : w4.heap[w.heap.size]? = some (jobj (j.at a c)) := by
    rw [hw4]
    simp [World.setCell, Array.getElem?_modify, hj3, jobj, J.cells, jcells, J.at]
  have ho4 : ∀ i, i ≠ w.heap.size → w4.heap[i]? = w3.heap[i]? := fun i hi => by rw [hw4]; exact Below.heap_setCell _ _ _ _ hi
  have hz4 : w4.heap[w.heap.size + 1]? = some (jobj zeroJ) := (ho4 _ (by omega)).trans hz3
  have hb4 : Below w.heap.size w w4 := (hb2.trans (hb3.mono hb2.size)).trans ⟨by rw [hw4]; rfl, by rw [hw4]; rfl, by rw [hw4]; rfl, by omega, fun i hi => ho4 i (by omega)⟩
  have hblk : ∀ x, a = some x → w.heap.size + 2 ≤ x.block ∧ x.block < w3.heap.size := fun x hx => by
    subst hx
    have := World.ownsRow.lt hown x.block (by simp [Value.ownBlock])
    omega
  have hv4 : Vals w4 a (j.deps.map uv) := hv.kept (by omega) fun x hx _ => ho4 _ (by have := (hblk x hx).1; omega)
  have hjf : JF w4 (j.at a c) := ⟨hj.id, hj.ver, hj.fit, hv4, ha, hc, hm⟩
  have HEND := Lib.hid (show Told1 j w.heap.size (j.at a c).val (w4.setRow (w.heap.size + 1) (j.at a c).cs) from
    ⟨a, c, rfl, hjf.kept (by rw [setRow_size]; exact Nat.le_refl _) fun x hx _ => setRow_other _ _ _ _ (by have := (hblk x hx).1; omega), fun x hx => by have := hblk x hx; rw [setRow_size, hs4]; omega⟩)
  have HB4 := Lib.hid (hb4.trans (below_row w4 (j.at a c).cs (show w.heap.size ≤ w.heap.size + 1 by omega)))
  have hfr : w3.frozen? ⟨w.heap.size, 8, none⟩ = false := by simp [World.frozen?, hj3, jobj]
  rw [hw4] at HEND HB4 hj4 hz4
  have HW2 := Lib.hid hw2
  have HZ4 := Lib.hid hz4
  have HJ4 := Lib.hid hj4
  have h8 := (jobj_cells hj2).2.2.2.1
  obtain ⟨⟨c0, c1, c2, c3, c4, c5⟩, c6, c7, c8, c9, c10, c11⟩ := jobj_cells hj3
  clear hj2 hz2 hb2 hs2 hj hown hg hlies ha hc hm hv hl hb3 hj3 hz3 hw4 hs4 hj4 ho4 hz4 hb4 hblk hv4 hjf hw2 hd
  unfold J.val J.cells jcells
  go_enter Tryz.func23, Tryz.ntmps23
  go_wp2_with (first
    | (at_builtin; rw [← HW2.out]; go_loud (refine Lib.wpList_append_run _ rfl _ _ _ _ rfl _ _ rfl rfl _ _ hrun ?_))
    | (refine wpList_store_row rfl 29 _ _ rfl (w.heap.size + 1) (j.at a c).cs rfl rfl 29 zeroJ.cells HZ4.out (by kernel_rfl) rfl (by kernel_rfl) ?_))
  obtain ⟨⟨d0, d1, d2, d3, d4, d5⟩, d6, d7, d8, d9, d10, d11⟩ := jobj_cells (setJob (j.at a c) HZ4.out)
  refine bodyPost_ret (v := (j.at a c).val) (by simp [results, Tryz.results23, go_sem, d0, d1, d2, d3, d4, d5, d6, d7, d8, d9, d10, d11, J.val, J.cells, jcells]) rfl ?_
  exact ⟨_, rfl, HEND.out, HB4.out⟩
end Go.Proofs.YtpbnjibomdilhaaGreatDoor.Job
