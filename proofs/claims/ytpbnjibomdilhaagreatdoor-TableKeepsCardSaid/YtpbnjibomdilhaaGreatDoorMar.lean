/- Nodes, by its contract. slices.DeleteFunc at nodes, of which one at most goes, by its contract. -/
import Derived.Test.YtpbnjibomdilhaaGreatDoorMaq
import Derived.Laws.IdiomCopy
namespace Go.Proofs.YtpbnjibomdilhaaGreatDoor.Job
open Go.RowKit Go.Maps

theorem rowJ_like {w : World} {B : Nat} {l L : List J} (h : Like w B l L) : rowJ l = rowJ L := by
  have := congrArg (List.map J.node) h.bare
  rw [List.map_map, List.map_map] at this
  exact this

set_option maxRecDepth 100000 in
set_option maxHeartbeats 2000000 in
theorem nodes_any {w : World} {k b : Nat} {L : List J} {last : Int} (h : TabAt w k b L last) (hd : ∀ j ∈ L, j.deps.length ≤ 1000000) (hL : L.length ≤ 1000) :
    Calls Tryz.prog 17 #[.pointer (some ⟨k, 0, none⟩)] w fun e w' => ∃ v l B, e = .returned v ∧ Gph.RowN B v l w' ∧ w.heap.size ≤ B ∧ Gph.rowOf l = rowJ L ∧ (∀ x ∈ l, Gph.NodeF w' x ∧ ∀ y, x.da = some y → y.block < B) ∧ Below w.heap.size w w' := by
  have HLI := Lib.hid (list_any h hd hL)
  have HLL := Lib.hid hL
  clear h hd hL
  go_enter Tryz.func17, Tryz.ntmps17
  go_wp2_with fail
  refine HLI.out.mono ?_
  rintro e w1 ⟨v, l, rfl, hrow, hlike, hasd, hb1⟩
  obtain ⟨va, vc, rfl, -⟩ := ownRow_shape hrow
  obtain ⟨hjf, -, -, -⟩ := hrow.read fun j hj => (hlike.each j hj).1
  have hlen := hlike.len
  have HJF := Lib.hid hjf
  have HASD := Lib.hid hasd
  have HRJ := Lib.hid (rowJ_like hlike)
  have HB1 := Lib.hid hb1
  have HLEN := Lib.hid (show l.length ≤ 1000 by rw [hlen]; exact HLL.out)
  clear hrow hjf hlike hasd hb1 hlen HLI
  go_wp2_with fail
  go_loopw [3, 9] (fun v3 v9 wr => ∃ (i : Nat), v9 = .int .i64 (i : Int) ∧ i ≤ l.length ∧ Gph.RowN w1.heap.size v3 ((l.take i).map J.nodeV) wr ∧ Below w1.heap.size w1 wr)
    (fun _ v9 _ => l.length - (intOf v9).toNat)
  case atStart => exact ⟨0, rfl, Nat.zero_le _, ⟨World.ownsRow_nil _ _ _ _⟩, Below.refl _ _⟩
  case round =>
    obtain ⟨i, rfl, hi, hrow, hbel⟩ := hrel
    by_cases hlt : i < l.length
    · obtain ⟨⟨g, q, h1, h2⟩, hea⟩ := HJF.out
      have ea := h1 (by intro e; rw [e] at hlt; simp at hlt)
      cases ea
      obtain ⟨hg, hc⟩ := h2 i hlt
      have htk : (l.take (i + 1)).map J.nodeV = (l.take i).map J.nodeV ++ [l[i].nodeV] := by rw [List.take_succ_eq_append_getElem hlt, List.map_append]; rfl
      obtain ⟨x, hx⟩ : ∃ x, l[i] = x := ⟨_, rfl⟩
      rw [hx] at hc htk
      obtain ⟨⟨c0, c1, c2, c3, c4, c5⟩, c6, c7, c8, c9, c10, c11⟩ := JobsF.cells (w := wr) fun c h12 => (hbel.cell (p := ⟨g, q + (i * 12 + c), none⟩) hg).trans (hc c h12)
      obtain ⟨va3, vc3, rfl, -⟩ := ownRow_shape hrow.own
      have hd : decide ((i : Int) < (l.length : Int)) = true := by simp; omega
      have hlen : ((l.take i).map J.nodeV).length = i := by rw [List.length_map, List.length_take]; omega
      rw [hlen]
      have hb1 : (i : Int) < 1000 := by have := HLEN.out; omega
      have hb0 : (0 : Int) ≤ i := by omega
      have HNO := Lib.hid (node_any x (wr.alloc (.cells x.cs 29)))
      have HROW := Lib.hid hrow
      have HBEL := Lib.hid hbel
      have HTK := Lib.hid htk
      have HLE := Lib.hid hlen
      unfold J.val J.cells jcells at HNO
      clear h1 h2 hc htk hx hrow hbel hg hlen hi hea
      go_wp2_with fail
      refine HNO.out.mono ?_
      rintro e w3 ⟨rfl, hb3⟩
      have hb3w : Below wr.heap.size wr w3 := ((Below.refl _ _).alloc (Nat.le_refl _) _).trans (hb3.mono (by simp))
      have hs3 : w1.heap.size ≤ w3.heap.size := Nat.le_trans HBEL.out.size hb3w.size
      have hrow3 := HROW.out.below hb3w
      rw [HLE.out] at hrow3
      obtain ⟨v', w4, hrun, hrow4, hg4⟩ := run_appN hrow3 hs3 x.nodeV (by rw [HLE.out]; omega)
      have hbA : Below w3.heap.size w3 (w3.alloc (.cells #[.int .u64 x.nodeV.id, .slice x.nodeV.da x.nodeV.deps.length x.nodeV.dc] 72)) := (Below.refl _ _).alloc (Nat.le_refl _) _
      have hb34 : Below w1.heap.size w1 w4 := ((HBEL.out.trans (hb3w.mono HBEL.out.size)).trans (hbA.mono hs3)).grown hg4 (by simp; omega) (fun j e => (World.ownsRow.lt hrow3.own j e).1)
      rw [← HTK.out] at hrow4
      obtain ⟨a4, cc4, e4, -⟩ := ownRow_shape hrow4.own
      rw [show ((l.take (i + 1)).map J.nodeV).length = i + 1 by rw [List.length_map, List.length_take]; omega] at e4
      subst e4
      have HR4 := Lib.hid hrow4
      have HB34 := Lib.hid hb34
      unfold J.nodeV at hrun
      dsimp only at hrun
      clear hrow3 hrow4 hb34 hg4 hbA hs3 hb3 hb3w HNO c0 c1 c2 c3 c4 c5 c6 c7 c8 c9 c10 c11
      go_wp2_with (at_builtin; go_loud (refine Lib.wpList_append_run _ rfl _ _ _ _ rfl _ _ rfl rfl _ _ hrun ?_))
      go_roundw
      case rel => exact ⟨i + 1, by go_num, hlt, HR4.out, HB34.out⟩
      case measure => simp [intOf]; omega
    · obtain rfl : i = l.length := by omega
      have hd : decide ((l.length : Int) < (l.length : Int)) = false := by simp
      rw [List.take_length] at hrow
      obtain ⟨va3, vc3, rfl, -⟩ := ownRow_shape hrow.own
      have HROW := Lib.hid hrow
      have HN := Lib.hid (show ∀ x ∈ l.map J.nodeV, Gph.NodeF wr x ∧ ∀ y, x.da = some y → y.block < w1.heap.size from fun x hx => by
        obtain ⟨j, hj, rfl⟩ := List.mem_map.1 hx
        exact ⟨(nodeF (HJF.out.each j hj)).below hbel, fun y hy => (HASD.out j hj y hy).2⟩)
      have HBEL := Lib.hid (HB1.out.trans (hbel.mono HB1.out.size))
      clear hrow hbel
      go_wp2_with fail
      go_ret
      exact ⟨_, _, _, rfl, HROW.out, HB1.out.size, (rowOf_nodes l).trans HRJ.out, HN.out, HBEL.out⟩
end Go.Proofs.YtpbnjibomdilhaaGreatDoor.Job

namespace Go.Proofs.YtpbnjibomdilhaaGreatDoor.Job
open Go.RowKit Go.Maps Gph

/-- a row of nodes in a block of the call's own, of that capacity -/
structure CopyC (g cap : Nat) (l : List NodeV) (W : World) : Prop where
  blk : ∃ cs, W.heap[g]? = some (.cells cs 72 (0, 0)) ∧ cs.size = cap * 2 ∧ cs.toList.take (l.length * 2) = flatN l
  cap : l.length ≤ cap
theorem CopyC.lt {g cap : Nat} {l : List NodeV} {W : World} (h : CopyC g cap l W) : g < W.heap.size := by obtain ⟨cs, hg, _⟩ := h.blk; exact (Array.getElem?_eq_some_iff.1 hg).1
theorem CopyC.same {g cap : Nat} {l : List NodeV} {W W' : World} (h : CopyC g cap l W) (hk : W'.heap[g]? = W.heap[g]?) : CopyC g cap l W' := by
  obtain ⟨cs, hg, r⟩ := h.blk
  exact ⟨⟨cs, hk.trans hg, r⟩, h.cap⟩
theorem CopyC.at_ {g cap : Nat} {l : List NodeV} {W : World} (h : CopyC g cap l W) {j : Nat} (hj : j < l.length) :
    W.cell? ⟨g, j * 2, none⟩ = some (.int .u64 l[j].id) ∧ W.cell? ⟨g, j * 2 + 1, none⟩ = some (.slice l[j].da l[j].deps.length l[j].dc) := by
  obtain ⟨cs, hg, h1, h2⟩ := h.blk
  obtain ⟨a1, a2⟩ := flatN_at hj
  constructor
  · rw [cell_of_row _ _ _ _ _ _ hg, ← a1, ← h2, List.getElem?_take, if_pos (by omega), Array.getElem?_toList]
  · rw [cell_of_row _ _ _ _ _ _ hg, ← a2, ← h2, List.getElem?_take, if_pos (by omega), Array.getElem?_toList]
theorem CopyC.free {g cap : Nat} {l : List NodeV} {W : World} (h : CopyC g cap l W) (j : Nat) : W.frozen? ⟨g, j, none⟩ = false := by
  obtain ⟨cs, hg, h1, h2⟩ := h.blk
  simp [World.frozen?, hg]
theorem CopyC.put {g cap j : Nat} {l : List NodeV} {W : World} (h : CopyC g cap l W) (u : NodeV) :
    CopyC g cap (l.set j u) ((W.setCell ⟨g, j * 2, none⟩ (.int .u64 u.id)).setCell ⟨g, j * 2 + 1, none⟩ (.slice u.da u.deps.length u.dc)) := by
  obtain ⟨cs, hg, h1, h2⟩ := h.blk
  refine ⟨⟨(cs.setIfInBounds (j * 2) (.int .u64 u.id)).setIfInBounds (j * 2 + 1) (.slice u.da u.deps.length u.dc), ?_, by simpa using h1, ?_⟩, by simpa using h.cap⟩
  · simp [World.setCell, Array.getElem?_modify, hg]
  · rw [Array.toList_setIfInBounds, Array.toList_setIfInBounds, List.length_set, List.take_set, List.take_set, h2]
    apply List.ext_getElem?
    intro i
    have hfl := flatN_len l
    have hfl2 := flatN_len (l.set j u)
    rw [List.length_set] at hfl2
    by_cases hi : i < l.length * 2
    · have hi2 : i / 2 < (l.set j u).length := by rw [List.length_set]; omega
      have hi' : i / 2 < l.length := by omega
      obtain ⟨a1, a2⟩ := flatN_at hi2
      obtain ⟨b1, b2⟩ := flatN_at hi'
      have hgs : (l.set j u)[i / 2] = if j = i / 2 then u else l[i / 2] := by rw [List.getElem_set]
      rw [hgs] at a1 a2
      rw [List.getElem?_set, List.getElem?_set, List.length_set, hfl]
      rcases Nat.mod_two_eq_zero_or_one i with e | e
      · rw [show i / 2 * 2 = i by omega] at a1 b1
        rw [if_neg (by omega), a1]
        by_cases hji : j = i / 2
        · rw [if_pos (by omega), if_pos (by omega), if_pos hji]
        · rw [if_neg (by omega), if_neg hji, b1]
      · rw [show i / 2 * 2 + 1 = i by omega] at a2 b2
        rw [a2]
        by_cases hji : j = i / 2
        · rw [if_pos (by omega), if_pos (by omega), if_pos hji]
        · rw [if_neg (by omega), if_neg (by omega), if_neg hji, b2]
    · rw [List.getElem?_eq_none (by simp; omega), List.getElem?_eq_none (by omega)]
theorem flatN_take (l : List NodeV) (n : Nat) : flatN (l.take n) = (flatN l).take (n * 2) := by
  induction l generalizing n with
  | nil => simp [flatN]
  | cons v l ih =>
    cases n with
    | zero => simp [flatN]
    | succ n =>
      have := ih n
      unfold flatN at *
      rw [List.take_succ_cons, List.map_cons, List.flatten_cons, this, List.map_cons, List.flatten_cons, show (n + 1) * 2 = (encN v).length + n * 2 by simp [encN]; omega, List.take_length_add_append]
theorem CopyC.row {g cap B : Nat} {l : List NodeV} {W : World} (h : CopyC g cap l W) (hB : B ≤ g) (hm : cap ≤ maxLen) {n : Nat} (hn : n ≤ l.length) : RowN B (.slice (some ⟨g, 0, none⟩) n cap) (l.take n) W := by
  obtain ⟨cs, hg, h1, h2⟩ := h.blk
  have hc := h.cap
  have hln : (l.take n).length = n := by rw [List.length_take]; omega
  refine ⟨⟨by rw [flatN_len], .inr ⟨g, cap, cs, by rw [hln], hB, hg, by omega, hm, h1, ?_⟩⟩⟩
  rw [hln, flatN_take, ← h2, List.take_take, Nat.min_eq_left (by omega)]
theorem CopyC.of {B : Nat} {a : Option Addr} {n c : Nat} {l : List NodeV} {W : World} (h : RowN B (.slice a n c) l W) (hl : 0 < l.length) : ∃ g, a = some ⟨g, 0, none⟩ ∧ CopyC g c l W ∧ B ≤ g ∧ c ≤ maxLen ∧ n = l.length := by
  rcases h.own.2 with ⟨e, h0⟩ | ⟨g, cap, cur, e, hB, hg, h1, h2, h3, h4⟩
  · omega
  · cases e
    exact ⟨g, rfl, ⟨⟨cur, hg, h3, h4⟩, h1⟩, hB, h2, rfl⟩

/-- the row at the loop's head: i is gone, up to j all is moved -/
def gone (l : List NodeV) (i q : Nat) : List NodeV := (l.eraseIdx i).take q ++ l.drop q
theorem gone_len {l : List NodeV} {i q : Nat} (hi : i < l.length) (hq : q < l.length) : (gone l i q).length = l.length := by
  simp [gone, List.length_eraseIdx, hi]; omega
theorem gone_first {l : List NodeV} {i : Nat} (hi : i < l.length) : gone l i i = l := by
  unfold gone
  rw [List.eraseIdx_eq_take_drop_succ, List.take_append_of_le_length (by rw [List.length_take]; omega), List.take_take, Nat.min_self, List.take_append_drop]
theorem gone_at {l : List NodeV} {i q : Nat} (hi : i < l.length) {j : Nat} (hj : j < l.length) (hqj : q ≤ j) : (gone l i q)[j]? = some l[j] := by
  unfold gone
  have : ((l.eraseIdx i).take q).length = q := by rw [List.length_take, List.length_eraseIdx, if_pos hi]; omega
  rw [List.getElem?_append_right (by omega), this, List.getElem?_drop, show q + (j - q) = j by omega, List.getElem?_eq_getElem hj]
theorem gone_step {l : List NodeV} {i q : Nat} (hi : i ≤ q) (hq : q + 1 < l.length) : (gone l i q).set q l[q + 1] = gone l i (q + 1) := by
  have hil : i < l.length := by omega
  unfold gone
  have hlen : ((l.eraseIdx i).take q).length = q := by rw [List.length_take, List.length_eraseIdx, if_pos hil]; omega
  rw [List.set_append_right _ _ (by omega), hlen, Nat.sub_self, List.drop_eq_getElem_cons (by omega : q < l.length), List.set_cons_zero]
  have hqe : q < (l.eraseIdx i).length := by rw [List.length_eraseIdx, if_pos hil]; omega
  rw [List.take_succ_eq_append_getElem hqe, List.append_assoc, List.singleton_append]
  have : (l.eraseIdx i)[q] = l[q + 1] := by rw [List.getElem_eraseIdx, dif_neg (by omega)]
  rw [this]
theorem gone_last {l : List NodeV} {i : Nat} (hi : i < l.length) : (gone l i (l.length - 1)).take (l.length - 1) = l.eraseIdx i := by
  have he : (l.eraseIdx i).length = l.length - 1 := by rw [List.length_eraseIdx, if_pos hi]
  unfold gone
  rw [List.take_of_length_le (by omega : (l.eraseIdx i).length ≤ l.length - 1), List.take_append_of_le_length (by omega), List.take_of_length_le (by omega)]
end Go.Proofs.YtpbnjibomdilhaaGreatDoor.Job
