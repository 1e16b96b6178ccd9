/- rowWith, by its contract. Sets of Ids (maps to nothing): has, add, hasAll, ids, by their contracts. -/
import Derived.Test.YtpbnjibomdilhaaGreatDoorDelW
import Derived.Test.YtpbnjibomdilhaaGreatDoorMak
import Derived.Maps.OwnSet
import Derived.RangeFuncBox
namespace Go.Proofs.YtpbnjibomdilhaaGreatDoor.Job
open Go.RowKit Go.Maps Gph

theorem NodeF.kept {w w' : World} {v : NodeV} (h : NodeF w v) (hs : w.heap.size ≤ w'.heap.size) (hb : v.deps ≠ [] → ∀ x, v.da = some x → x.block < w.heap.size → w'.heap[x.block]? = w.heap[x.block]?) : NodeF w' v := by
  obtain ⟨h1, ⟨⟨g, q, h2, h3⟩, h4⟩, h5, h6⟩ := h
  refine ⟨h1, ⟨⟨g, q, h2, fun i hi => ⟨Nat.lt_of_lt_of_le (h3 i hi).1 hs, ?_⟩⟩, h4⟩, h5, h6⟩
  have hne : v.deps ≠ [] := fun e => by rw [e] at hi; simp at hi
  have hbl := hb hne _ (h2 hne) (h3 i hi).1
  have hc := (h3 i hi).2
  rw [← hc]
  unfold World.cell?
  simp only [] at hbl ⊢
  rw [hbl]
theorem rowOf_filter (l : List NodeV) (id : Int) : rowOf (l.filter fun x => !(x.id == id)) = (rowOf l).filter fun n => !(n.1 == id) := by
  unfold rowOf
  rw [List.filter_map]
  rfl
theorem ids_inj {L : List J} (hr : (L.map (·.id)).Pairwise (· < ·)) {l : List NodeV} (hl : rowOf l = rowJ L) (id : Int) : ∀ i k (hi : i < l.length) (hk : k < l.length), l[i].id = id → l[k].id = id → i = k := by
  have hids : l.map (·.id) = L.map (·.id) := by
    have := congrArg (List.map Prod.fst) hl
    unfold rowOf rowJ at this
    rw [List.map_map, List.map_map] at this
    exact this
  have hn : (l.map (·.id)).Nodup := by rw [hids]; exact hr.imp fun h => by omega
  intro i k hi hk h1 h2
  exact Gr.nodup_inj hn (by simpa using hi) (by simpa using hk) (by simp [h1, h2])

set_option maxRecDepth 100000 in
set_option maxHeartbeats 2000000 in
theorem rowWith_any {w : World} {k b : Nat} {L : List J} {last : Int} (h : TabAt w k b L last) (hd : ∀ j ∈ L, j.deps.length ≤ 1000000) (hL : L.length ≤ 1000) {j : J} (hj : JF w j) :
    Calls Tryz.prog 27 #[.pointer (some ⟨k, 0, none⟩), j.val] w fun e w' => ∃ v l, e = .returned v ∧ RowN w.heap.size v l w' ∧ rowOf l = withJ L j ∧ (∀ x ∈ l, NodeF w' x) ∧ Below w.heap.size w w' := by
  obtain ⟨w0, hw0⟩ : ∃ W, W = w.alloc (.cells j.cs 29) := ⟨_, rfl⟩
  have hb0 : Below w.heap.size w w0 := by rw [hw0]; exact (Below.refl _ _).alloc (Nat.le_refl _) _
  have hj0 : w0.heap[w.heap.size]? = some (jobj j) := by rw [hw0]; exact heap_alloc_new w _
  have hs0 : w0.heap.size = w.heap.size + 1 := by rw [hw0]; simp
  have HNO := Lib.hid (nodes_any (h.below hb0) hd hL)
  have HW0 := Lib.hid hw0
  have HB0 := Lib.hid hb0
  have HJ0 := Lib.hid hj0
  have HS0 := Lib.hid hs0
  have HR := Lib.hid h.rise
  have HJF := Lib.hid (hj.below hb0)
  have HJF0 := Lib.hid hj
  have HL := Lib.hid hL
  clear h hd hL hj hw0 hb0 hj0 hs0
  unfold J.val J.cells jcells
  go_enter Tryz.func27, Tryz.ntmps27
  go_wp2_with fail
  rw [← HW0.out]
  refine HNO.out.mono ?_
  rintro e w1 ⟨v, l, B, rfl, hrow, hB, hof, hnf, hb1⟩
  obtain ⟨va, vc, rfl, -⟩ := ownRow_shape hrow.own
  have hj1 := (hb1.block _ (by have := HS0.out; omega)).trans HJ0.out
  have hlen : l.length = L.length := by have := congrArg List.length hof; simpa [rowOf, rowJ] using this
  have hdel := del_any hrow (fun x hx => (hnf x hx).1) (by rw [hlen]; have := HL.out; omega) j w.heap.size hj1 (by have := HS0.out; omega) (ids_inj HR.out hof j.id)
  have HDEL := Lib.hid hdel
  have HROW := Lib.hid hrow
  have HB1 := Lib.hid hb1
  have HNF := Lib.hid hnf
  have HOF := Lib.hid hof
  have HBB := Lib.hid hB
  have HLEN := Lib.hid hlen
  clear hrow hB hof hnf hb1 hj1 hlen hdel HNO
  go_wp2_with fail
  refine HDEL.out.mono ?_
  rintro e w2 ⟨v2, l2, rfl, hrow2, hl2, hg2⟩
  obtain ⟨va2, vc2, rfl, -⟩ := ownRow_shape hrow2.own
  have hltB : ∀ q, (Value.slice va l.length vc).ownBlock = some q → B ≤ q := fun q e => (World.ownsRow.lt HROW.out.own q e).1
  have hb2 : Below w0.heap.size w0 w2 := HB1.out.grown hg2 HB1.out.size (fun q e => by have := hltB q e; have := HBB.out; omega)
  have hj2 : w2.heap[w.heap.size]? = some (jobj j) := (hb2.block _ (by have := HS0.out; omega)).trans HJ0.out
  have hnf2 : ∀ x ∈ l2, NodeF w2 x ∧ ∀ y, x.da = some y → y.block < B := fun x hx => by
    rw [hl2] at hx
    have h1 := HNF.out x (List.mem_filter.1 hx).1
    refine ⟨?_, h1.2⟩
    exact NodeF.kept h1.1 hg2.size fun _ y hy hyl => hg2.block _ hyl fun e => by have := hltB _ e.symm; have := h1.2 y hy; omega
  have hof2 : rowOf l2 = (rowJ L).filter fun n => !(n.1 == j.id) := by rw [hl2, rowOf_filter, HOF.out]
  have hlen2 : l2.length ≤ L.length := by rw [hl2, ← HLEN.out]; exact List.length_filter_le _ _
  obtain ⟨⟨c0, c1, c2, c3, c4, c5⟩, c6, c7, c8, c9, c10, c11⟩ := jobj_cells hj2
  have HNO := Lib.hid (node_any j w2)
  have HROW2 := Lib.hid hrow2
  have HB2 := Lib.hid hb2
  have HNF2 := Lib.hid hnf2
  have HOF2 := Lib.hid hof2
  have HLEN2 := Lib.hid hlen2
  clear hrow2 hl2 hg2 hltB hb2 hj2 hnf2 hof2 hlen2 HDEL HROW
  unfold J.val J.cells jcells at HNO
  go_wp2_with fail
  refine HNO.out.mono ?_
  rintro e w3 ⟨rfl, hb3⟩
  have hrow3 := HROW2.out.below hb3
  have hrow3w : RowN w.heap.size (.slice va2 l2.length vc2) l2 w3 := ⟨ownRow_less hrow3.own (by have := HBB.out; have := HS0.out; omega)⟩
  have hb2w : Below w.heap.size w w3 := (HB0.out.trans (HB2.out.mono HB0.out.size)).trans (hb3.mono (Nat.le_trans HB0.out.size HB2.out.size))
  obtain ⟨v', w4, hrun, hrow4, hg4⟩ := run_appN hrow3w hb2w.size j.nodeV (by have := HLEN2.out; have := HL.out; omega)
  have hbA : Below w3.heap.size w3 (w3.alloc (.cells #[.int .u64 j.nodeV.id, .slice j.nodeV.da j.nodeV.deps.length j.nodeV.dc] 72)) := (Below.refl _ _).alloc (Nat.le_refl _) _
  have hltB : ∀ q, (Value.slice va2 l2.length vc2).ownBlock = some q → B ≤ q := fun q e => (World.ownsRow.lt hrow3.own q e).1
  have hb4 : Below w.heap.size w w4 := (hb2w.trans (hbA.mono hb2w.size)).grown hg4 (by have := hb2w.size; simp; omega) (fun q e => by have := hltB q e; have := HBB.out; have := HS0.out; omega)
  have hs4 : w3.heap.size ≤ w4.heap.size := Nat.le_trans hbA.size hg4.size
  have hk4 : ∀ q, q < w3.heap.size → q < B → w4.heap[q]? = w3.heap[q]? := fun q h1 h2 => (hg4.block q (by simp; omega) fun e => by have := hltB q e.symm; omega).trans (Below.heap_alloc _ _ _ h1)
  have hnf4 : ∀ x ∈ l2 ++ [j.nodeV], NodeF w4 x := fun x hx => by
    rcases List.mem_append.1 hx with hx | hx
    · exact NodeF.kept ((HNF2.out x hx).1.below hb3) hs4 fun _ y hy hyl => hk4 _ hyl ((HNF2.out x hx).2 y hy)
    · simp at hx
      subst hx
      refine NodeF.kept ((nodeF HJF0.out).below hb2w) hs4 fun hne y hy hyl => hk4 _ hyl ?_
      obtain ⟨q, o, h1, h2⟩ := HJF0.out.vals
      have hne2 : j.deps ≠ [] := hne
      have e := h1 (by simpa using hne2)
      have h3 := (h2 0 (by rw [List.length_map]; exact List.length_pos_iff.2 hne2)).1
      have : y = ⟨q, o, none⟩ := Option.some.inj (hy.symm.trans e)
      rw [this]
      have := HBB.out
      have := HS0.out
      show q < B
      omega
  have hof4 : rowOf (l2 ++ [j.nodeV]) = withJ L j := by
    unfold withJ
    rw [← HOF2.out]
    unfold rowOf
    rw [List.map_append]
    rfl
  obtain ⟨a4, cc4, e4, -⟩ := ownRow_shape hrow4.own
  rw [show (l2 ++ [j.nodeV]).length = l2.length + 1 by simp] at e4
  subst e4
  have HR4 := Lib.hid hrow4
  have HB4 := Lib.hid hb4
  have HN4 := Lib.hid hnf4
  have HO4 := Lib.hid hof4
  unfold J.nodeV at hrun
  dsimp only at hrun
  clear hrow3 hrow3w hb2w hrow4 hg4 hbA hltB hb4 hs4 hk4 hnf4 hof4 hb3 HNO c0 c1 c2 c3 c4 c5 c6 c7 c8 c9 c10 c11
  go_wp2_with (at_builtin; go_loud (refine Lib.wpList_append_run _ rfl _ _ _ _ rfl _ _ rfl rfl _ _ hrun ?_))
  go_ret
  exact ⟨_, _, rfl, HR4.out, HO4.out, HN4.out, HB4.out⟩
end Go.Proofs.YtpbnjibomdilhaaGreatDoor.Job

namespace Go.Proofs.YtpbnjibomdilhaaGreatDoor.Gph
open Go.RowKit Go.Maps Gr

theorem setLaw : Keyed Tryz.prog 26 := int_keyed Tryz.underlying26
theorem keyOf_u {x : Int} (h : U64 x) : keyOf Tryz.prog 26 (.int .u64 x) = some (.int .u64 x) := by
  simp [keyOf, Tryz.underlying26, mapKey, wf_u h]
theorem isKey_u (x : Int) : WideAt.IsKeyLit (.int .u64 x) := trivial
theorem zero_unit (w : World) : (zeroValue 108).run Tryz.prog w = .ok (.agg #[]) w := by kernel_rfl

/-- all but one block stands -/
structure Only (b : Nat) (w w' : World) : Prop where
  os : w'.os = w.os
  tape : w'.tape = w.tape
  output : w'.output = w.output
  size : w.heap.size ≤ w'.heap.size
  block : ∀ i, i < w.heap.size → i ≠ b → w'.heap[i]? = w.heap[i]?
theorem Only.refl (b : Nat) (w : World) : Only b w w := ⟨rfl, rfl, rfl, Nat.le_refl _, fun _ _ _ => rfl⟩
theorem Only.trans {b : Nat} {w w1 w2 : World} (h : Only b w w1) (k : Only b w1 w2) : Only b w w2 :=
  ⟨k.os.trans h.os, k.tape.trans h.tape, k.output.trans h.output, Nat.le_trans h.size k.size, fun i hi hb => (k.block i (Nat.lt_of_lt_of_le hi h.size) hb).trans (h.block i hi hb)⟩
theorem Only.of_below {w w' : World} (b : Nat) (h : Below w.heap.size w w') : Only b w w' := ⟨h.os, h.tape, h.output, h.size, fun i hi _ => h.block i hi⟩
theorem Only.of_grown {b : Nat} {w w' : World} (h : w.grownBy w' (some b)) : Only b w w' := ⟨h.os, h.tape, h.output, h.size, fun i hi hb => h.block i hi (by simpa using hb)⟩
theorem Only.below {b B : Nat} {w w' : World} (h : Only b w w') (hB : B ≤ w.heap.size) (hb : B ≤ b) : Below B w w' :=
  ⟨h.os, h.tape, h.output, h.size, fun i hi => h.block i (by omega) (by omega)⟩

/-- one more, if they are not in -/
def put (S : List Int) (x : Int) : List Int := if x ∈ S then S else S ++ [x]
theorem mem_put {S : List Int} {x y : Int} : y ∈ put S x ↔ y = x ∨ y ∈ S := by
  unfold put
  split
  · rename_i h
    constructor
    · exact .inr
    · rintro (rfl | h2)
      · exact h
      · exact h2
  · simp [or_comm]
theorem put_nodup {S : List Int} {x : Int} (h : S.Nodup) : (put S x).Nodup := by
  unfold put
  split
  · exact h
  · rename_i hx
    exact List.nodup_append.2 ⟨h, by simp, fun a ha b hb => by simp at hb; subst hb; exact fun e => hx (e ▸ ha)⟩
theorem put_new {S : List Int} {x : Int} (h : x ∉ S) : put S x = S ++ [x] := by simp [put, h]
theorem put_len (S : List Int) (x : Int) : (put S x).length ≤ S.length + 1 := by
  unfold put
  split <;> simp

/-- the map at b holds the numbers S -/
structure SetAt (w : World) (b : Nat) (S : List Int) : Prop where
  map : ∃ D : DataW Unit, w.ownsMap Tryz.prog 26 unitElem b (Maps.size D) D ∧ Tidy D ∧ Maps.size D = S.length ∧ ∀ x, U64 x → has D (.int .u64 x) = S.contains x
  nodup : S.Nodup
section
variable {w w' : World} {b : Nat} {S : List Int}
theorem SetAt.lt (h : SetAt w b S) : b < w.heap.size := by obtain ⟨D, h1, _⟩ := h.map; exact h1.lt
theorem SetAt.same (h : SetAt w b S) (hk : w'.heap[b]? = w.heap[b]?) : SetAt w' b S := by
  obtain ⟨D, ⟨es, clock, hb, r⟩, h2⟩ := h.map
  exact ⟨⟨D, ⟨es, clock, hk.trans hb, r⟩, h2⟩, h.nodup⟩
theorem SetAt.below (h : SetAt w b S) (hb : Below w.heap.size w w') : SetAt w' b S := h.same (hb.block _ h.lt)
theorem SetAt.made (w : World) : SetAt (w.alloc (.map #[] 0)) w.heap.size [] :=
  ⟨⟨.map [], World.ownsMap_made w _ _ _, tidy_empty, rfl, fun _ _ => rfl⟩, List.nodup_nil⟩
theorem ownsMap_exact {n : Nat} {D : DataW Unit} {P : Program} {k : TypeId} {R : Value → Option (DataW Unit × List MemPlace)} (h : w.ownsMap P k R b n D) : w.ownsMap P k R b (Maps.size D) D := by
  obtain ⟨es, clock, hb, F, _, rfl⟩ := h
  exact ⟨es, clock, hb, F, by simp [Maps.size, length_sorted], rfl⟩
theorem setAt_put {n : Nat} {x : Int} {D : DataW Unit} (hown : w'.ownsMap Tryz.prog 26 unitElem b n (D.put (.int .u64 x) (.agg []))) (ht : Tidy D) (hs : Maps.size D = S.length) (hh : ∀ x, U64 x → has D (.int .u64 x) = S.contains x) (hS : S.Nodup) (hx : U64 x) : SetAt w' b (put S x) := by
  refine ⟨⟨_, ownsMap_exact hown, ht.put (isKey_u x) _, ?_, fun y hy => ?_⟩, put_nodup hS⟩
  · rw [size_put ht, hh x hx, hs]
    unfold put
    by_cases h : x ∈ S
    · simp [h]
    · simp [h]
  · by_cases he : y = x
    · subst he
      rw [has_put_same ht.isMap (isKey_u y)]
      exact (List.contains_iff_mem.2 (mem_put.2 (.inl rfl))).symm
    · rw [has_put_other (by simp; omega), hh y hy, Bool.eq_iff_iff, List.contains_iff_mem, List.contains_iff_mem, mem_put]
      simp [he]

/-- has: the map stands; a block of nothing is made -/
theorem has_any (h : SetAt w b S) {x : Int} (hx : U64 x) :
    Calls Tryz.prog 58 #[.map (some b), .int .u64 x] w fun e w' => e = .returned (.bool (S.contains x)) ∧ Below w.heap.size w w' := by
  obtain ⟨D, hD, ht, hs, hh⟩ := h.map
  have hhx := hh x hx
  have HH := Lib.hid hhx
  clear h ht hs hh hhx
  go_enter Tryz.func58, Tryz.ntmps58
  go_wp2_with (first
    | (at_lookup; refine wpList_lookup_own_unit _ rfl _ _ 83 rfl 26 108 setLaw Tryz.underlying83 (zero_unit _) b _ D rfl hD _ _ rfl (keyOf_u hx) ?_)
    | go_in)
  go_ret
  exact ⟨by rw [HH.out]; rfl, (Below.refl _ _).alloc (Nat.le_refl _) _⟩

theorem add_any (h : SetAt w b S) {x : Int} (hx : U64 x) (hS : S.length < 1000000) :
    Calls Tryz.prog 59 #[.map (some b), .int .u64 x] w fun e w' => e = .returned (.tuple #[]) ∧ SetAt w' b (put S x) ∧ w.grownBy w' (some b) := by
  obtain ⟨D, hD, ht, hs, hh⟩ := h.map
  have HH := Lib.hid hh
  have hn := h.nodup
  have hsz : Maps.size D < 1000000 := by omega
  clear h hh
  go_enter Tryz.func59, Tryz.ntmps59
  go_wp2_with (first
    | (at_mapUpdate; refine wpList_mapUpdate_own _ rfl _ _ _ 83 rfl 26 108 setLaw Tryz.underlying83 unitElem b _ D rfl hD (by unfold maxLen; omega) _ _ (.int .u64 x) rfl rfl (keyOf_u hx) (.agg []) [] unitElem_mk ?_; intro w2 hown hg)
    | go_in)
  go_end0
  exact ⟨rfl, setAt_put hown ht hs HH.out hn hx, hg⟩

set_option maxRecDepth 100000 in
set_option maxHeartbeats 1000000 in
theorem hasAll_any (h : SetAt w b S) {a : Option Addr} {zs : List Int} {c : Nat} (hz : NumsF w a zs) (hl : zs.length ≤ 1000000) :
    Calls Tryz.prog 53 #[.map (some b), .slice a zs.length c] w fun e w' => e = .returned (.bool (zs.all fun x => S.contains x)) ∧ Below w.heap.size w w' := by
  obtain ⟨⟨g, q, ha, hc⟩, hfit⟩ := hz
  have HA := Lib.hid ha
  have HC := Lib.hid hc
  have HF := Lib.hid hfit
  have HS := Lib.hid h
  clear h ha hc hfit
  go_enter Tryz.func53, Tryz.ntmps53
  go_wp2
  go_loopw [9] (fun v wr => ∃ i : Nat, v = .int .i64 (i : Int) ∧ i ≤ zs.length ∧ (∀ j (hj : j < zs.length), j < i → zs[j] ∈ S) ∧ Below w.heap.size w wr) (fun v _ => zs.length - (intOf v).toNat)
  case atStart => exact ⟨0, rfl, Nat.zero_le _, fun j _ hj => absurd hj (by omega), Below.refl _ _⟩
  case round =>
    obtain ⟨i, rfl, hi, hall, hb⟩ := hrel
    have HALL := Lib.hid hall
    have HB := Lib.hid hb
    clear hall hb
    by_cases hlt : i < zs.length
    · obtain ⟨hg, hc⟩ := HC.out i hlt
      have hc2 := (HB.out.cell (p := ⟨g, q + i, none⟩) hg).trans hc
      have ea := HA.out (by intro e; subst e; simp at hlt)
      cases ea
      have HH := Lib.hid (has_any (HS.out.below HB.out) (HF.out zs[i] (List.getElem_mem hlt)))
      have hd : decide ((i : Int) < (zs.length : Int)) = true := by simp; omega
      obtain ⟨x, hx⟩ : ∃ x, zs[i] = x := ⟨_, rfl⟩
      rw [hx] at hc2 HH
      have HX := Lib.hid hx
      clear hx hc hg
      cases hin : S.contains x with
      | true =>
        rw [hin] at HH
        have HIN := Lib.hid hin
        clear hin
        go_wp2_with fail
        refine HH.out.mono ?_
        rintro e w1 ⟨rfl, hb1⟩
        have HB1 := Lib.hid (HB.out.trans (hb1.mono HB.out.size))
        clear hb1
        go_wp2
        go_roundw
        case rel => exact ⟨i + 1, by go_num, by omega, fun j hj hji => by
          rcases Nat.lt_or_ge j i with h1 | h1
          · exact HALL.out j hj h1
          · obtain rfl : j = i := by omega
            rw [HX.out]
            exact List.contains_iff_mem.1 HIN.out, HB1.out⟩
        case measure => simp [intOf]; omega
      | false =>
        rw [hin] at HH
        have HIN := Lib.hid hin
        clear hin
        go_wp2_with fail
        refine HH.out.mono ?_
        rintro e w1 ⟨rfl, hb1⟩
        have HB1 := Lib.hid (HB.out.trans (hb1.mono HB.out.size))
        clear hb1
        go_wp2
        go_ret
        refine ⟨?_, HB1.out⟩
        have : (zs.all fun x => S.contains x) = false := by
          rw [List.all_eq_false]
          exact ⟨zs[i], List.getElem_mem hlt, by rw [HX.out, HIN.out]; simp⟩
        rw [this]
        rfl
    · have hd : decide ((i : Int) < (zs.length : Int)) = false := by simp; omega
      go_wp2
      go_ret
      refine ⟨?_, HB.out⟩
      have : (zs.all fun x => S.contains x) = true := by
        rw [List.all_eq_true]
        intro x hx
        obtain ⟨j, hj, rfl⟩ := List.getElem_of_mem hx
        exact List.contains_iff_mem.2 (HALL.out j hj (by omega))
      rw [this]
      rfl

theorem snoc_ind {α : Type} {p : List α → Prop} (h0 : p []) (h1 : ∀ l x, p l → p (l ++ [x])) : ∀ l, p l := by
  intro l
  rw [← List.reverse_reverse l]
  induction l.reverse with
  | nil => exact h0
  | cons x r ih => rw [List.reverse_cons]; exact h1 _ _ ih
theorem twin {m : List Int} (h : ¬ m.Nodup) : ∃ x, x ∈ m ∧ x ∈ m.erase x := by
  induction m with
  | nil => exact absurd List.nodup_nil h
  | cons y r ih =>
    by_cases hy : y ∈ r
    · exact ⟨y, by simp, by simpa using hy⟩
    · obtain ⟨x, hx, hx2⟩ := ih fun hr => h (List.nodup_cons.2 ⟨hy, hr⟩)
      refine ⟨x, by simp [hx], ?_⟩
      have hxy : y ≠ x := fun e => hy (e ▸ hx)
      rw [List.erase_cons_tail (by simpa using hxy)]
      simp [hx2]
/-- the Ids of nodes, each once -/
def idSet (l : List NodeV) : List Int := l.foldl (fun S v => put S v.id) []
theorem idSet_snoc (l : List NodeV) (v : NodeV) : idSet (l ++ [v]) = put (idSet l) v.id := by simp [idSet]
theorem mem_idSet {l : List NodeV} {x : Int} : x ∈ idSet l ↔ x ∈ l.map (·.id) := by
  have h : ∀ l : List NodeV, x ∈ idSet l ↔ x ∈ l.map (·.id) := by
    refine snoc_ind (by simp [idSet]) fun l v ih => ?_
    rw [idSet_snoc, mem_put, ih]
    simp [or_comm]
  exact h l
theorem idSet_len (l : List NodeV) : (idSet l).length ≤ l.length := by
  revert l
  refine snoc_ind (by simp [idSet]) fun l v ih => ?_
  rw [idSet_snoc]
  have := put_len (idSet l) v.id
  simp
  omega
theorem idSet_nodup (l : List NodeV) : (idSet l).Nodup := by
  revert l
  refine snoc_ind (by simp [idSet]) fun l v ih => ?_
  rw [idSet_snoc]
  exact put_nodup ih
/-- fewer Ids than nodes: one is told twice -/
theorem idSet_lt {l : List NodeV} : (idSet l).length < l.length ↔ ¬ (l.map (·.id)).Nodup := by
  constructor
  · intro h hn
    have := nodup_le hn (fun x hx => mem_idSet.2 hx)
    simp at this
    omega
  · intro h
    apply Decidable.byContradiction
    intro h2
    apply h
    have hS := idSet_nodup l
    have hm : ∀ x, x ∈ idSet l ↔ x ∈ l.map (·.id) := fun x => mem_idSet
    have hlen : (l.map (·.id)).length ≤ (idSet l).length := by simp; omega
    clear h h2
    generalize l.map (·.id) = m at *
    generalize idSet l = S at *
    apply Classical.byContradiction
    intro hn
    obtain ⟨x, hx, hx2⟩ := twin hn
    have h3 := nodup_le (l := m.erase x) hS (fun y hy => by
      by_cases e : y = x
      · rw [e]; exact hx2
      · exact (List.mem_erase_of_ne e).2 ((hm y).1 hy))
    rw [List.length_erase_of_mem hx] at h3
    have := List.length_pos_of_mem hx
    omega

set_option maxRecDepth 100000 in
set_option maxHeartbeats 1000000 in
/-- ids: a new set of the nodes' Ids -/
theorem ids_any {w : World} {a : Option Addr} {l : List NodeV} {c : Nat} (hN : NodesF w a l) (hl : l.length ≤ 1000) :
    Calls Tryz.prog 49 #[.slice a l.length c] w fun e w' => ∃ b, e = .returned (.map (some b)) ∧ w.heap.size ≤ b ∧ SetAt w' b (idSet l) ∧ Below w.heap.size w w' := by
  obtain ⟨⟨b0, q, ha, hc⟩, heach⟩ := hN
  have HA := Lib.hid ha
  have HC := Lib.hid hc
  have HE := Lib.hid heach
  clear ha hc heach
  have hnew := SetAt.made w
  have hb0 : Below w.heap.size w (w.alloc (.map #[] 0)) := (Below.refl _ _).alloc (Nat.le_refl _) _
  have HS0 := Lib.hid hnew
  have HB0 := Lib.hid hb0
  clear hnew hb0
  have hmm := @run_makeMap Tryz.prog
  go_enter Tryz.func49, Tryz.ntmps49
  go_wp2
  go_loopw [9] (fun v wr => ∃ i : Nat, v = .int .i64 (i : Int) ∧ i ≤ l.length ∧ SetAt wr w.heap.size (idSet (l.take i)) ∧ Below w.heap.size w wr) (fun v _ => l.length - (intOf v).toNat)
  case atStart => exact ⟨0, rfl, Nat.zero_le _, HS0.out, HB0.out⟩
  case round =>
    obtain ⟨i, rfl, hi, hs, hb⟩ := hrel
    have HS := Lib.hid hs
    have HB := Lib.hid hb
    clear hs hb
    by_cases hlt : i < l.length
    · obtain ⟨hg, hc1, hc2⟩ := HC.out i hlt
      have hd1 := (HB.out.cell (p := ⟨b0, q + i * 2, none⟩) hg).trans hc1
      have hd2 := (HB.out.cell (p := ⟨b0, q + i * 2 + 1, none⟩) hg).trans hc2
      have ea := HA.out (by intro e; subst e; simp at hlt)
      cases ea
      have htk : l.take (i + 1) = l.take i ++ [l[i]] := List.take_succ_eq_append_getElem hlt
      have hfit := (HE.out l[i] (List.getElem_mem hlt)).id
      have hd : decide ((i : Int) < (l.length : Int)) = true := by simp; omega
      have hlen := idSet_len (l.take i)
      rw [List.length_take] at hlen
      have hls : (idSet (l.take i)).length < 1000000 := by omega
      obtain ⟨v, hv⟩ : ∃ v, l[i] = v := ⟨_, rfl⟩
      rw [hv] at htk hfit hd1 hd2
      have HTK := Lib.hid htk
      have hbA : Below wr.heap.size wr (wr.alloc (.cells #[.int .u64 v.id, .slice v.da v.deps.length v.dc] 72)) := (Below.refl _ _).alloc (Nat.le_refl _) _
      have HAD := Lib.hid (add_any (HS.out.below hbA) hfit hls)
      have HBA := Lib.hid (HB.out.trans (hbA.mono HB.out.size))
      clear hv htk hc1 hc2 hg hlen hbA hfit hls
      go_wp2_with fail
      refine HAD.out.mono ?_
      rintro e w1 ⟨rfl, hs1, hg1⟩
      have HS1 := Lib.hid hs1
      have HB1 := Lib.hid (HBA.out.grown hg1 HBA.out.size (fun k e => by cases e; exact Nat.le_refl _))
      clear hs1 hg1
      go_wp2
      go_roundw
      case rel => exact ⟨i + 1, by go_num, by omega, by rw [HTK.out, idSet_snoc]; exact HS1.out, HB1.out⟩
      case measure => simp [intOf]; omega
    · have hd : decide ((i : Int) < (l.length : Int)) = false := by simp; omega
      obtain rfl : i = l.length := by omega
      rw [List.take_length] at HS
      go_wp2
      go_ret
      exact ⟨w.heap.size, rfl, Nat.le_refl _, HS.out, HB.out⟩
end

end Go.Proofs.YtpbnjibomdilhaaGreatDoor.Gph
