/- The reference's Record, by its contract. -/
import Derived.Test.YtmfemedcjgeheaaGreatDoorWalRow
import Derived.Test.YtmfemedcjgeheaaGreatDoorFramePut
import Derived.Test.YtmfemedcjgeheaaGreatDoorRefPut
import Derived.Test.YtmfemedcjgeheaaGreatDoorPutA
import Derived.Test.YtmfemedcjgeheaaGreatDoorReg
namespace Go.Proofs.YtmfemedcjgeheaaGreatDoor
open Go.RowKit Go.Maps Dsk Wl

/-- append in a region, whose run is known -/
theorem wp_append_run {P : Program} {o : Oper} {a : Act} {w w' : World} {v v' x : Value} {s y : Operand} {t : TypeId} {K : Act → World → Prop} {Q : Exit → Act → World → Prop}
    (ho : o.op = .call { callee := .builtin .append, args := #[s, y], argTypes := #[t, t] }) (hs : a.eval s = v) (hx : a.eval y = x) (hr : (Builtin.append_ #[t, t] o.type #[v, x]).run P w = .ok v' w') (hk : K (a.put o.dst v') w') : o.wp P a w K Q := by
  unfold Oper.wp execOp
  simp only [ho, resolve, invoke, builtin, Sem.run_bind, Sem.run_pure, Result.andThen_ok, List.map_toArray, List.map_cons, List.map_nil, hs, hx, hr]
  exact hk

set_option maxRecDepth 100000 in
set_option maxHeartbeats 1000000 in
theorem refRecord_zero (t : Int) (x : Value) (w : World) : Calls Tryz.prog 28 #[.agg #[.int .u64 0, .int .u64 t, x]] w fun r w' => r = .returned (.tuple #[.slice none 0 0, .int .i64 2]) ∧ Below w.heap.size w w' := by
  go_enter Tryz.func28, Tryz.ntmps28
  go_wp2
  go_ret2
  exact ⟨rfl, (Below.refl _ _).alloc (Nat.le_refl _) _⟩

set_option maxRecDepth 100000 in
set_option maxHeartbeats 1000000 in
theorem refRecord_long (n t : Int) (a : Option Addr) (len c : Nat) (w : World) (hn : n ≠ 0) (hl : 2000 < len) : Calls Tryz.prog 28 #[.agg #[.int .u64 n, .int .u64 t, .slice a len c]] w fun r w' => r = .returned (.tuple #[.slice none 0 0, .int .i64 3]) ∧ Below w.heap.size w w' := by
  have hd : (n == 0) = false := by simpa using hn
  have hd2 : decide ((2000 : Int) < (len : Int)) = true := by simp; omega
  go_enter Tryz.func28, Tryz.ntmps28
  go_wp2
  go_ret2
  exact ⟨rfl, (Below.refl _ _).alloc (Nat.le_refl _) _⟩

set_option maxRecDepth 100000 in
set_option maxHeartbeats 4000000 in
theorem refRecord_any (e : Ent) (a : Option Addr) (c : Nat) (w : World) (he : e.ok) (hp : Reads w a e.body) :
    Calls Tryz.prog 28 #[.agg #[.int .u64 (e.ix : Int), .int .u64 (e.term : Int), .slice a e.body.length c]] w fun r w' => ∃ g c', r = .returned (.tuple #[.slice (some ⟨g, 0, none⟩) (recOf e).length c', .int .i64 0]) ∧ Row w' w.heap.size (recOf e) (.slice (some ⟨g, 0, none⟩) (recOf e).length c') ∧ Below w.heap.size w w' := by
  obtain ⟨i0, hi, hz0, hz1, hz2⟩ := info_parts info5
  have hd : ((e.ix : Int) == 0) = false := by rw [beq_eq_false_iff_ne]; have := he.1; omega
  have hd2 : decide ((2000 : Int) < (e.body.length : Int)) = false := by have := he.2.2.2.1; simp; omega
  have hw1 : Below w.heap.size w (w.alloc (.cells #[.int .u64 (e.ix : Int), .int .u64 (e.term : Int), .slice a e.body.length c] 55)) := (Below.refl _ _).alloc (Nat.le_refl _) _
  have hb1 : (w.alloc (.cells #[.int .u64 (e.ix : Int), .int .u64 (e.term : Int), .slice a e.body.length c] 55)).heap[w.heap.size]? = some (.cells #[.int .u64 (e.ix : Int), .int .u64 (e.term : Int), .slice a e.body.length c] 55 (0, 0)) := heap_alloc_new _ _
  have hcv := (hp.below hw1).text e.body.length c rfl
  have hsz := strOfNums_size e.body
  have hbl := bl_str he.2.2.2.2
  have hbn := he.2.2.2.1
  have hlen := rec_len he
  generalize hS : strOfNums e.body = S at *
  have HN := Lib.hid he.2.1
  have HT := Lib.hid he.2.2.1
  have HBN := Lib.hid hbn
  have HB1 := Lib.hid hb1
  have HW1 := Lib.hid hw1
  have HLEN := Lib.hid hlen
  have HI := Lib.hid hi
  have HZ0 := Lib.hid hz0
  have HZ1 := Lib.hid hz1
  have HZ2 := Lib.hid hz2
  clear hi hz0 hz1 hz2
  have HPT := Lib.hid (fun W => refPutText_any S (by omega) W)
  rw [hbl, hsz] at HPT
  obtain ⟨tt, htt⟩ : ∃ tt, tt = Num.put e.body.length ++ e.body := ⟨_, rfl⟩
  rw [← htt] at HPT
  have hne : tt ≠ [] := by rw [htt]; exact fun h => Num.enc_ne 9 e.body.length (List.append_eq_nil_iff.1 h).1
  have HTL := Lib.hid (show tt.length ≤ 2010 by rw [htt, List.length_append]; have := Num.put_len e.body.length; omega)
  have HTT := Lib.hid htt
  have HNE := Lib.hid hne
  clear htt hne hS hbn hlen he hsz hbl hp hb1 hw1
  go_enter Tryz.func28, Tryz.ntmps28
  go_wp2_with fail
  refine (HPT.out _).mono ?_
  rintro r w2 ⟨v2, rfl, hr2, hb2⟩
  obtain ⟨g2, cap2, rfl, hg20, hg21, _, _, _⟩ := hr2.is HNE.out
  have hz12 := hb2.size
  have HEB := Lib.hid ((hb2.block w.heap.size (by simp)).trans HB1.out)
  have HC0 := Lib.hid (show ∀ W, Below w2.heap.size w2 W → W.cell? ⟨w.heap.size, 0, none⟩ = some (.int .u64 (e.ix : Int)) from fun W h => by
    rw [cell_of_row W w.heap.size 0 _ _ _ ((h.block w.heap.size (lt_of_block HEB.out)).trans HEB.out)]; rfl)
  have HC1 := Lib.hid (show ∀ W, Below w2.heap.size w2 W → W.cell? ⟨w.heap.size, 1, none⟩ = some (.int .u64 (e.term : Int)) from fun W h => by
    rw [cell_of_row W w.heap.size 1 _ _ _ ((h.block w.heap.size (lt_of_block HEB.out)).trans HEB.out)]; rfl)
  have HR2 := Lib.hid hr2
  have B2 := Lib.hid (HW1.out.trans (hb2.mono HW1.out.size))
  have HG2 := Lib.hid hg21
  clear hr2 hb2 hg21
  go_wp2_with fail
  refine wp_region_held_drew (S := fun W => Below w2.heap.size w2 W) (by kernel_rfl) (Below.refl _ _).drew (fun hHeld => ?_)
  refine wpAnyH_take (i := 0) (oi := ?_) (v := ?_) ?_ (by kernel_rfl) (by kernel_rfl) (by kernel_rfl) ?_ (Or.inl ⟨?_, ?_⟩) (by assumption) ?_
  rotate_left 2
  focus (simp only [List.getElem?_toArray, List.getElem?_cons_zero]; rfl)
  focus exact fun _ _ _ h => h
  focus rfl
  focus (intro W hS; (try dsimp only at hS); go_simp; (try with_reducible rfl))
  try simp only [Act.put]
  try simp only [List.setIfInBounds_toArray]
  try simp only [List.set_cons_succ]
  try simp only [List.set_cons_zero]
  refine wpAnyH_take (i := 1) (oi := ?_) (v := ?_) ?_ (by kernel_rfl) (by kernel_rfl) (by kernel_rfl) ?_ (Or.inl ⟨?_, ?_⟩) (by assumption) ?_
  rotate_left 2
  focus (simp only [List.getElem?_toArray, List.getElem?_cons_succ, List.getElem?_cons_zero]; rfl)
  focus exact fun _ _ _ h => h
  focus rfl
  focus (intro W hS; (try dsimp only at hS); have q := HC0.out W hS; go_simp; (try with_reducible rfl))
  try simp only [Act.put]
  try simp only [List.setIfInBounds_toArray]
  try simp only [List.set_cons_succ]
  try simp only [List.set_cons_zero]
  refine wpAnyH_take (i := 3) (oi := ?_) (v := ?_) ?_ (by kernel_rfl) (by kernel_rfl) (by kernel_rfl) ?_ (Or.inl ⟨?_, ?_⟩) (by assumption) ?_
  rotate_left 2
  focus (simp only [List.getElem?_toArray, List.getElem?_cons_succ, List.getElem?_cons_zero]; rfl)
  focus exact fun _ _ _ h => h
  focus rfl
  focus (intro W hS; (try dsimp only at hS); go_simp; (try with_reducible rfl))
  try simp only [Act.put]
  try simp only [List.setIfInBounds_toArray]
  try simp only [List.set_cons_succ]
  try simp only [List.set_cons_zero]
  refine wpAnyH_take (i := 4) (oi := ?_) (v := ?_) ?_ (by kernel_rfl) (by kernel_rfl) (by kernel_rfl) ?_ (Or.inl ⟨?_, ?_⟩) (by assumption) ?_
  rotate_left 2
  focus (simp only [List.getElem?_toArray, List.getElem?_cons_succ, List.getElem?_cons_zero]; rfl)
  focus exact fun _ _ _ h => h
  focus rfl
  focus (intro W hS; (try dsimp only at hS); have q := HC1.out W hS; go_simp; (try with_reducible rfl))
  try simp only [Act.put]
  try simp only [List.setIfInBounds_toArray]
  try simp only [List.set_cons_succ]
  try simp only [List.set_cons_zero]
  refine wpAnyH_take (i := 7) (oi := ?_) (v := ?_) ?_ (by kernel_rfl) (by kernel_rfl) (by kernel_rfl) ?_ (Or.inl ⟨?_, ?_⟩) (by assumption) ?_
  rotate_left 2
  focus (simp only [List.getElem?_toArray, List.getElem?_cons_succ, List.getElem?_cons_zero]; rfl)
  focus exact fun _ _ _ h => h
  focus rfl
  focus (intro W hS; (try dsimp only at hS); go_simp; (try with_reducible rfl))
  try simp only [Act.put]
  try simp only [List.setIfInBounds_toArray]
  try simp only [List.set_cons_succ]
  try simp only [List.set_cons_zero]
  refine wpAnyH_ready (rs := [2]) (by kernel_rfl) (by simp) ?_
  refine AllReadyH.cons (o := ?_) ?_ (fun K hK => ?_) AllReadyH.nil
  rotate_left
  focus (simp only [List.getElem?_toArray, List.getElem?_cons_succ, List.getElem?_cons_zero]; rfl)
  rw [if_pos (by rfl)]
  go_simp
  refine (refPut_any 9 e.ix _ (Nat.le_refl _) (Nat.lt_trans HN.out (by decide)) HN.out).mono ?_
  rintro r w3 ⟨v3, rfl, hr3, hb3⟩
  have h3 := (Below.refl w2.heap.size w2).drew.trans hb3
  obtain ⟨g3, cap3, rfl, _, _, _, _, _⟩ := hr3.is (Num.enc_ne 9 e.ix)
  have HR3 := Lib.hid (show Row w3 w2.heap.size (Num.put e.ix) (.slice (some ⟨g3, 0, none⟩) (Num.put e.ix).length cap3) from hr3)
  clear hr3 hb3
  go_wp2_with fail
  refine hK.out _ _ h3 (fun hHeld => ?_)
  clear hK K
  try simp only [Act.put]
  try simp only [List.setIfInBounds_toArray]
  try simp only [List.set_cons_succ]
  try simp only [List.set_cons_zero]
  refine wpAnyH_ready (rs := [5]) (by kernel_rfl) (by simp) ?_
  refine AllReadyH.cons (o := ?_) ?_ (fun K hK => ?_) AllReadyH.nil
  rotate_left
  focus (simp only [List.getElem?_toArray, List.getElem?_cons_succ, List.getElem?_cons_zero]; rfl)
  rw [if_pos (by rfl)]
  go_simp
  refine (refPut_any 9 e.term _ (Nat.le_refl _) (Nat.lt_trans HT.out (by decide)) HT.out).mono ?_
  rintro r w4 ⟨v4, rfl, hr4, h4⟩
  obtain ⟨g4, cap4, rfl, hg40, _, _, _, _⟩ := hr4.is (Num.enc_ne 9 e.term)
  have HR4 := Lib.hid (show Row w4 w3.heap.size (Num.put e.term) (.slice (some ⟨g4, 0, none⟩) (Num.put e.term).length cap4) from hr4)
  have h34 := h3.trans (h4.mono h3.size)
  clear hr4
  go_wp2_with fail
  refine hK.out _ _ h34 (fun hHeld => ?_)
  clear hK K
  try simp only [Act.put]
  try simp only [List.setIfInBounds_toArray]
  try simp only [List.set_cons_succ]
  try simp only [List.set_cons_zero]
  have hl3 := Num.put_len e.ix
  have hl4 := Num.put_len e.term
  obtain ⟨v5, w5, hrun5, hown5, hgr5, _⟩ := run_append_own (P := Tryz.prog) w4 w2.heap.size 39 39 5 i0 (.int .u8 0) 1 1 Tryz.underlying39 HI.out HZ0.out HZ1.out HZ2.out rfl (by decide) _ _ _ (HR3.out.below h4) ⟨g4, 0, none⟩ (Num.put e.term).length cap4 ((Num.put e.term).map (Value.int .u8)) (by simp) (HR4.out.news (Below.refl _ _) rfl) (ints_oneCell .u8 _) (by unfold maxLen; omega) (by omega) h34.size
  have h5 : Below w2.heap.size w2 w5 := h34.grown hgr5 h34.size (fun k hk => (HR3.out.own k hk).1)
  rw [← List.map_append, ← List.length_append] at hown5
  have HR5 := Lib.hid (show Row w5 w2.heap.size (Num.put e.ix ++ Num.put e.term) v5 from hown5)
  clear hown5 hgr5
  refine wpAnyH_ready (rs := [6]) (by kernel_rfl) (by simp) ?_
  refine AllReadyH.cons (o := ?_) ?_ (fun K hK => ?_) AllReadyH.nil
  rotate_left
  focus (simp only [List.getElem?_toArray, List.getElem?_cons_succ, List.getElem?_cons_zero]; rfl)
  rw [if_pos (by rfl)]
  refine wp_append_run rfl rfl rfl hrun5 ?_
  refine hK.out _ _ h5 (fun hHeld => ?_)
  clear hK K
  clear hrun5
  try simp only [Act.put]
  try simp only [List.setIfInBounds_toArray]
  try simp only [List.set_cons_succ]
  try simp only [List.set_cons_zero]
  obtain ⟨v6, w6, hrun6, hown6, hgr6, _⟩ := run_append_own (P := Tryz.prog) w5 w2.heap.size 39 39 5 i0 (.int .u8 0) 1 1 Tryz.underlying39 HI.out HZ0.out HZ1.out HZ2.out rfl (by decide) _ _ _ HR5.out ⟨g2, 0, none⟩ tt.length cap2 (tt.map (Value.int .u8)) (by simp) (HR2.out.news h5 rfl) (ints_oneCell .u8 _) (by have := HTL.out; unfold maxLen; simp; omega) (by have := HTL.out; simp; omega) h5.size
  have h6 : Below w2.heap.size w2 w6 := h5.grown hgr6 h5.size (fun k hk => (HR5.out.own k hk).1)
  rw [← List.map_append, ← List.length_append] at hown6
  have hrec : Num.put e.ix ++ Num.put e.term ++ tt = recOf e := by simp [recOf, HTT.out]
  rw [hrec] at hown6
  have HR6 := Lib.hid (show Row w6 w2.heap.size (recOf e) v6 from hown6)
  clear hown6 hgr6 hrec
  refine wpAnyH_ready (rs := [8]) (by kernel_rfl) (by simp) ?_
  refine AllReadyH.cons (o := ?_) ?_ (fun K hK => ?_) AllReadyH.nil
  rotate_left
  focus (simp only [List.getElem?_toArray, List.getElem?_cons_succ, List.getElem?_cons_zero]; rfl)
  rw [if_pos (by rfl)]
  refine wp_append_run rfl rfl rfl hrun6 ?_
  refine hK.out _ _ h6 (fun hHeld => ?_)
  clear hK K
  clear hrun6
  try simp only [Act.put]
  try simp only [List.setIfInBounds_toArray]
  try simp only [List.set_cons_succ]
  try simp only [List.set_cons_zero]
  refine wpAnyH_take (i := 9) (oi := ?_) (v := ?_) ?_ (by kernel_rfl) (by kernel_rfl) (by kernel_rfl) ?_ (Or.inl ⟨?_, ?_⟩) (by assumption) ?_
  rotate_left 2
  focus (simp only [List.getElem?_toArray, List.getElem?_cons_succ, List.getElem?_cons_zero]; rfl)
  focus exact fun _ _ _ h => h
  focus rfl
  focus (intro W hS; (try dsimp only at hS); go_simp; (try with_reducible rfl))
  try simp only [Act.put]
  try simp only [List.setIfInBounds_toArray]
  try simp only [List.set_cons_succ]
  try simp only [List.set_cons_zero]
  refine wpAnyH_take (i := 10) (oi := ?_) (v := ?_) ?_ (by kernel_rfl) (by kernel_rfl) (by kernel_rfl) ?_ (Or.inl ⟨?_, ?_⟩) (by assumption) ?_
  rotate_left 2
  focus (simp only [List.getElem?_toArray, List.getElem?_cons_succ, List.getElem?_cons_zero]; rfl)
  focus exact fun _ _ _ h => h
  focus rfl
  focus (intro W hS; (try dsimp only at hS); go_simp; (try with_reducible rfl))
  try simp only [Act.put]
  try simp only [List.setIfInBounds_toArray]
  try simp only [List.set_cons_succ]
  try simp only [List.set_cons_zero]
  refine wpAnyH_done (by kernel_rfl) ?_ _
  have hrne : recOf e ≠ [] := by
    unfold recOf
    exact fun h => Num.enc_ne 9 e.ix (List.append_eq_nil_iff.1 h).1
  obtain ⟨g6, c6, rfl, _, _, _, _, _⟩ := HR6.out.is hrne
  go_wp2
  go_ret2
  exact ⟨g6, c6, rfl, HR6.out.less B2.out.size, B2.out.trans (h6.mono B2.out.size)⟩

end Go.Proofs.YtmfemedcjgeheaaGreatDoor
