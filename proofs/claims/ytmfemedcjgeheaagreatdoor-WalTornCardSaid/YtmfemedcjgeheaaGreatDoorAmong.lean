/- Rows of segments in memory; among, by its contract. -/
import Derived.Test.YtmfemedcjgeheaaGreatDoorWalRow
import Derived.Test.YtmfemedcjgeheaaGreatDoorDskC
namespace Go.Proofs.YtmfemedcjgeheaaGreatDoor
open Go.RowKit Go.Maps Go.Sort Dsk Wl

theorem info_seg : (Tryz.prog.info? 75).map (fun i => (i.zero, i.size, i.bytes)) = some (some (.agg #[.int .i64 0, .slice none 0 0, .int .i64 0, .int .i64 0, .int .u64 0]), 5, 56) := by kernel_rfl

/-- a segment's cells, as numbers -/
structure Sx where
  num : Nat
  bs : List Int
  good : Nat
  n : Nat
  top : Nat
/-- a segment of which nothing was read -/
def Sx.mk0 (k : Nat) : Sx := ⟨k, [], 0, 0, 0⟩
def segCells : List Sx → List Value → List Value
  | s :: r, v :: vs => .int .i64 s.num :: v :: .int .i64 s.good :: .int .i64 s.n :: .int .u64 s.top :: segCells r vs
  | _, _ => []
theorem segCells_len : ∀ (l : List Sx) (vs : List Value), vs.length = l.length → (segCells l vs).length = l.length * 5
  | [], _, _ => by simp [segCells]
  | e :: es, [], h => by simp at h
  | e :: es, v :: vs, h => by
    simp only [segCells, List.length_cons]
    rw [segCells_len es vs (by simpa using h)]
    omega
theorem segCells_snoc : ∀ (l : List Sx) (vs : List Value) (s : Sx) (v : Value), vs.length = l.length → segCells (l ++ [s]) (vs ++ [v]) = segCells l vs ++ [.int .i64 s.num, v, .int .i64 s.good, .int .i64 s.n, .int .u64 s.top]
  | [], [], e, v, _ => rfl
  | [], v' :: vs, e, v, h => by simp at h
  | e' :: es, [], e, v, h => by simp at h
  | e' :: es, v' :: vs, e, v, h => by
    simp only [segCells, List.cons_append]
    rw [segCells_snoc es vs e v (by simpa using h)]
theorem segCells_at : ∀ (l : List Sx) (vs : List Value) (i : Nat) (hi : i < l.length), vs.length = l.length →
    (segCells l vs)[i * 5]? = some (.int .i64 l[i].num) ∧ (segCells l vs)[i * 5 + 1]? = some (vs.getD i undef) ∧ (segCells l vs)[i * 5 + 2]? = some (.int .i64 l[i].good) ∧ (segCells l vs)[i * 5 + 3]? = some (.int .i64 l[i].n) ∧ (segCells l vs)[i * 5 + 4]? = some (.int .u64 l[i].top)
  | [], _, i, hi, _ => by simp at hi
  | e :: es, [], i, hi, h => by simp at h
  | e :: es, v :: vs, 0, hi, h => by simp [segCells]
  | e :: es, v :: vs, i + 1, hi, h => by
    have := segCells_at es vs i (by simpa using hi) (by simpa using h)
    simp only [segCells]
    rw [show (i + 1) * 5 = i * 5 + 1 + 1 + 1 + 1 + 1 by omega]
    simpa using this
/-- a segment's cells are written anew -/
theorem segCells_set : ∀ (l : List Sx) (vs : List Value) (i : Nat) (hi : i < l.length) (s : Sx) (v : Value), vs.length = l.length → s.num = l[i].num →
    ((((segCells l vs).set (i * 5 + 1) v).set (i * 5 + 2) (.int .i64 s.good)).set (i * 5 + 3) (.int .i64 s.n)).set (i * 5 + 4) (.int .u64 s.top) = segCells (l.set i s) (vs.set i v)
  | [], _, i, hi, _, _, _, _ => by simp at hi
  | e :: es, [], i, hi, _, _, h, _ => by simp at h
  | e :: es, v :: vs, 0, hi, s, u, h, hn => by
    have hn : s.num = e.num := hn
    simp [segCells, hn]
  | e :: es, v :: vs, i + 1, hi, s, u, h, hn => by
    have := segCells_set es vs i (by simpa using hi) s u (by simpa using h) (by simpa using hn)
    simp only [segCells]
    rw [show (i + 1) * 5 = i * 5 + 1 + 1 + 1 + 1 + 1 by omega]
    simpa [segCells] using this

/-- v holds just the segments l -/
structure SegRow (w : World) (B : Nat) (l : List Sx) (v : Value) : Prop where
  row : ∃ vs : List Value, vs.length = l.length ∧ w.ownsRow B 75 5 v l.length (segCells l vs) ∧ ∀ i (h : i < l.length), Row w B l[i].bs (vs.getD i undef)

section
variable {w w' : World} {B B' : Nat} {l : List Sx} {v : Value}
theorem SegRow.keep (h : SegRow w B l v) (hk : ∀ k cs, B ≤ k → w.heap[k]? = some (.cells cs 75 (0, 0)) → v.ownBlock = some k → w'.heap[k]? = w.heap[k]?) (hu : ∀ k cs, B ≤ k → w.heap[k]? = some (.cells cs 5 (0, 0)) → w'.heap[k]? = w.heap[k]?) : SegRow w' B l v := by
  obtain ⟨vs, h1, h2, h3⟩ := h.row
  refine ⟨vs, h1, ownsRow_keep h2 fun k e => ?_, fun i hi => (h3 i hi).keep fun k e => ?_⟩
  · rcases h2.2 with ⟨rfl, _⟩ | ⟨g, cap, cur, rfl, hB, hg, _⟩
    · cases e
    · have e1 : g = k := by simpa [Value.ownBlock] using e
      subst e1
      exact hk g cur hB hg rfl
  · rcases (h3 i hi).2 with ⟨hv, _⟩ | ⟨g, cap, cur, hv, hB, hg, _⟩
    · rw [hv] at e; cases e
    · rw [hv] at e
      have e1 : g = k := by simpa [Value.ownBlock] using e
      subst e1
      exact hu g cur hB hg
theorem SegRow.below (h : SegRow w B l v) (hb : Below w.heap.size w w') : SegRow w' B l v :=
  h.keep (fun _ _ _ hk _ => hb.block _ (lt_of_block hk)) (fun _ _ _ hk => hb.block _ (lt_of_block hk))
theorem SegRow.less (h : SegRow w B l v) (hB : B' ≤ B) : SegRow w B' l v := by
  obtain ⟨vs, h1, h2, h3⟩ := h.row
  exact ⟨vs, h1, ownsRow_less h2 hB, fun i hi => (h3 i hi).less hB⟩
theorem SegRow.nil (w : World) (B : Nat) : SegRow w B [] (.slice none 0 0) := ⟨[], rfl, World.ownsRow_nil _ _ _ _, fun i hi => by simp at hi⟩
theorem SegRow.shape (h : SegRow w B l v) : ∃ a c, v = .slice a l.length c ∧ (a = none → l.length = 0 ∧ c = 0) := by
  obtain ⟨vs, h1, h2, h3⟩ := h.row
  exact slice_shape h2
theorem SegRow.at_ (h : SegRow w B l v) {i : Nat} (hi : i < l.length) : ∃ g cap a c, v = .slice (some ⟨g, 0, none⟩) l.length cap ∧ B ≤ g ∧ g < w.heap.size ∧ w.cell? ⟨g, i * 5, none⟩ = some (.int .i64 l[i].num) ∧ w.cell? ⟨g, i * 5 + 1, none⟩ = some (.slice a l[i].bs.length c) ∧
    w.cell? ⟨g, i * 5 + 2, none⟩ = some (.int .i64 l[i].good) ∧ w.cell? ⟨g, i * 5 + 3, none⟩ = some (.int .i64 l[i].n) ∧ w.cell? ⟨g, i * 5 + 4, none⟩ = some (.int .u64 l[i].top) ∧ Row w B l[i].bs (.slice a l[i].bs.length c) ∧ l.length ≤ cap ∧ cap ≤ maxLen := by
  obtain ⟨vs, h1, h2, h3⟩ := h.row
  obtain ⟨c1, c2, c3, c4, c5⟩ := segCells_at l vs i hi h1
  have hr := h3 i hi
  obtain ⟨a, c, hs⟩ := hr.shape
  rcases h2.2 with ⟨_, hn⟩ | ⟨g, cap, cur, rfl, hB, hg, hle, hcm, _⟩
  · omega
  · refine ⟨g, cap, a, c, rfl, hB, lt_of_block hg, ?_, ?_, ?_, ?_, ?_, hs ▸ hr, hle, hcm⟩
    · rw [h2.cellAt _ (by omega), c1]
    · rw [h2.cellAt _ (by omega), c2, hs]
    · rw [h2.cellAt _ (by omega), c3]
    · rw [h2.cellAt _ (by omega), c4]
    · rw [h2.cellAt _ (by omega), c5]
theorem SegRow.more0 {v' : Value} {k : Nat} {vs : List Value} (h1 : vs.length = l.length) (h2 : w.ownsRow B 75 5 v l.length (segCells l vs)) (h3 : ∀ i (h : i < l.length), Row w B l[i].bs (vs.getD i undef)) (hg : w.grownBy w' v.ownBlock)
    (hrow : w'.ownsRow B 75 5 v' (l.length + 1) (segCells l vs ++ [.int .i64 (k : Int), .slice none 0 0, .int .i64 0, .int .i64 0, .int .u64 0])) : SegRow w' B (l ++ [Sx.mk0 k]) v' := by
  refine ⟨vs ++ [.slice none 0 0], by simp [h1], ?_, fun i hi => ?_⟩
  · rw [segCells_snoc _ _ _ _ h1, List.length_append]
    exact hrow
  · by_cases hin : i < l.length
    · have e1 : (l ++ [Sx.mk0 k])[i]'hi = l[i] := by simp [hin]
      have e2 : (vs ++ [Value.slice none 0 0]).getD i undef = vs.getD i undef := by simp [List.getD, List.getElem?_append, show i < vs.length by omega]
      rw [e1, e2]
      exact World.ownsRow.kept (h3 i hin) hg (ownsRow_apart (h3 i hin) h2 (by decide))
    · obtain rfl : i = l.length := by simp at hi; omega
      have e1 : (l ++ [Sx.mk0 k])[l.length]'hi = Sx.mk0 k := by simp
      have e2 : (vs ++ [Value.slice none 0 0]).getD l.length undef = .slice none 0 0 := by simp [List.getD, ← h1]
      rw [e1, e2]
      exact World.ownsRow_nil _ _ _ _
end

theorem nums_take (ks : List Name) (k : Nat) (hk : k < ks.length) : numsOf (ks.take (k + 1)) = numsOf (ks.take k) ++ (match numOf ks[k] with | none => [] | some n => [n]) := by
  rw [List.take_add_one, List.getElem?_eq_getElem hk, numsOf, List.filterMap_append]
  congr 1
  cases h : numOf ks[k] <;> simp [h]

set_option maxRecDepth 100000 in
set_option maxHeartbeats 1000000 in
theorem among_any (B B' : Nat) (ks : List Name) (a : Option Addr) (c : Nat) (w : World) (ht : Tabs B w) (hB : B ≤ w.heap.size) (hs : StrRow w B' ks (.slice a ks.length c)) (hn : ks.length < 1000000000) (hl : ∀ n ∈ ks, n.length ≤ 100) :
    Calls Tryz.prog 49 #[.slice a ks.length c] w fun r w' => ∃ v, r = .returned v ∧ SegRow w' w.heap.size ((numsOf ks).map Sx.mk0) v ∧ Below w.heap.size w w' := by
  obtain ⟨i0, hi, hz0, hz1, hz2⟩ := info_parts info_seg
  have HS := Lib.hid hs
  have HL := Lib.hid hl
  have HT := Lib.hid ht
  clear hs hl ht
  go_enter Tryz.func49, Tryz.ntmps49
  go_wp2_with fail
  go_loopw [3, 10] (fun v i wr => ∃ (k : Nat) (a n c : _), k ≤ ks.length ∧ i = .int .i64 (k : Int) ∧ v = .slice a n c ∧ SegRow wr w.heap.size ((numsOf (ks.take k)).map Sx.mk0) (.slice a n c) ∧ Below w.heap.size w wr) (fun _ i _ => ks.length - (intOf i).toNat)
  case atStart => exact ⟨0, none, 0, 0, Nat.zero_le _, rfl, rfl, SegRow.nil _ _, Below.refl _ _⟩
  case round =>
    obtain ⟨k, a1, n1, c1, hk, rfl, rfl, hrow, hbel⟩ := hrel
    by_cases hkl : k < ks.length
    · obtain ⟨g, rfl, hgB, hgs, hcn⟩ : ∃ g, a = some ⟨g, 0, none⟩ ∧ B' ≤ g ∧ g < w.heap.size ∧ w.cell? ⟨g, k, none⟩ = some (encStr ks[k]) := by
        have h := HS.out
        unfold StrRow at h
        rcases h.2 with ⟨_, hn⟩ | ⟨g, cap, cur, hv, hgB, hg, _⟩
        · omega
        · simp only [Value.slice.injEq] at hv
          obtain ⟨rfl, _, rfl⟩ := hv
          exact ⟨g, rfl, hgB, lt_of_block hg, by rw [World.ownsRow.cellAt h k (by omega)]; simp [hkl]⟩
      have hcr : wr.cell? ⟨g, k, none⟩ = some (.string ⟨ks[k].toArray⟩) := (hbel.cell (p := ⟨g, k, none⟩) hgs).trans hcn
      have hBr := hbel.size
      have htr := HT.out.below (hbel.mono hB)
      obtain ⟨ae, hsyn⟩ := htr.syn
      have HROW := Lib.hid hrow
      have HBEL := Lib.hid hbel
      have HKL := Lib.hid (HL.out ks[k] (List.getElem_mem hkl))
      have HTK := Lib.hid (nums_take ks k hkl)
      obtain ⟨nm, hnm⟩ : ∃ nm, nm = ks[k] := ⟨_, rfl⟩
      rw [← hnm] at hcr HKL HTK
      clear hrow hbel hcn htr hnm
      cases hno : numOf nm with
      | none =>
        have HN := Lib.hid (number_no nm ae wr HKL.out hno hsyn)
        rw [hno] at HTK
        clear hno
        go_wp2_with fail
        refine HN.out.mono ?_
        rintro r w2 ⟨rfl, hb2⟩
        have hsyn2 : w2.cell? ⟨0, 0, none⟩ = some (.iface 227 (.pointer (some ae))) := (hb2.cell (lt_of_cell hsyn)).trans hsyn
        go_wp2_with fail
        refine (is_same ae w2).mono ?_
        rintro r w3 ⟨rfl, rfl⟩
        go_wp2
        go_roundw
        case rel => exact ⟨k + 1, a1, n1, c1, by omega, by simp, rfl, by rw [HTK.out, List.append_nil]; exact HROW.out.below hb2, HBEL.out.trans (hb2.mono hBr)⟩
        case measure => simp [intOf]; omega
      | some m =>
        have HN := Lib.hid (number_yes nm m wr hno)
        rw [hno] at HTK
        clear hno
        go_wp2_with fail
        refine HN.out.mono ?_
        rintro r w2 ⟨rfl, hb2⟩
        have hsyn2 : w2.cell? ⟨0, 0, none⟩ = some (.iface 227 (.pointer (some ae))) := (hb2.cell (lt_of_cell hsyn)).trans hsyn
        go_wp2_with fail
        refine (is_nil ae w2).mono ?_
        rintro r w3 ⟨rfl, rfl⟩
        have HR2 := Lib.hid (HROW.out.below hb2)
        have HB2 := Lib.hid (HBEL.out.trans (hb2.mono hBr))
        obtain ⟨vs, v1, v2, v3⟩ := HR2.out.row
        obtain ⟨a1', c1', hsh, _⟩ := HR2.out.shape
        simp only [Value.slice.injEq] at hsh
        obtain ⟨rfl, hn1, rfl⟩ := hsh
        have hnl : n1 ≤ 1000000000 := by
          rw [hn1, List.length_map]
          have := List.length_filterMap_le numOf (ks.take k)
          rw [List.length_take] at this
          unfold numsOf
          omega
        have hB2s := HB2.out.size
        have hown : (w3.alloc (.cells #[.int .i64 (m : Int), .slice none 0 0, .int .i64 0, .int .i64 0, .int .u64 0] 75)).ownsRow w.heap.size 75 5 (.slice a1 n1 c1) n1 (segCells ((numsOf (ks.take k)).map Sx.mk0) vs) := by
          rw [hn1] at v2 ⊢
          exact v2.alloc _
        have hnews := cells_new w3 [.int .i64 (m : Int), .slice none 0 0, .int .i64 0, .int .i64 0, .int .u64 0] 75
        have V1 := Lib.hid v1
        have V2 := Lib.hid v2
        have V3 := Lib.hid v3
        have HN1 := Lib.hid hn1
        clear v1 v2 v3 hn1
        go_wp2_with (at_builtin; go_loud (refine wpList_append_own _ rfl _ _ 71 rfl w.heap.size 75 i0 (.agg #[.int .i64 0, .slice none 0 0, .int .i64 0, .int .i64 0, .int .u64 0]) 5 56 Tryz.underlying71 hi hz0 hz1 hz2 rfl (by decide) _ _ _ rfl hown ⟨w3.heap.size, 0, none⟩ 1 1 [.int .i64 (m : Int), .slice none 0 0, .int .i64 0, .int .i64 0, .int .u64 0] rfl rfl hnews (by simp [Value.oneCell']) (by unfold maxLen; omega) (by omega) (by simp; omega) ?_))
        intro v' w4 hown' hg4 hnil4
        obtain ⟨a', c', rfl, _⟩ := slice_shape hown'
        have hal : Below w3.heap.size w3 (w3.alloc (.cells #[.int .i64 (m : Int), .slice none 0 0, .int .i64 0, .int .i64 0, .int .u64 0] 75)) := (Below.refl _ _).alloc (Nat.le_refl _) _
        have hent : SegRow w4 w.heap.size ((numsOf (ks.take (k + 1))).map Sx.mk0) (.slice a' (n1 + 1) c') := by
          rw [HTK.out, List.map_append]
          have hn1 := HN1.out
          rw [hn1] at hown hg4 hown'
          have := SegRow.more0 (k := m) V1.out hown (fun i hi' => (V3.out i hi').below hal) hg4 hown'
          rw [hn1]
          exact this
        have hb4 : Below w.heap.size w w4 := ((HB2.out.trans (hal.mono hB2s)).grown hg4 (by simp; omega) (fun j hj => by
          have := (World.ownsRow.lt hown j hj).1
          omega))
        have HE := Lib.hid hent
        have HB4 := Lib.hid hb4
        clear hown' hg4 hnil4 hown hnews hent hb4
        go_wp2
        go_roundw
        case rel => exact ⟨k + 1, a', n1 + 1, c', by omega, by simp, rfl, HE.out, HB4.out⟩
        case measure => simp [intOf]; omega
    · have hke : k = ks.length := by omega
      subst hke
      rw [List.take_length] at hrow
      have HROW := Lib.hid hrow
      have HBEL := Lib.hid hbel
      clear hrow hbel
      go_wp2
      go_ret
      exact ⟨_, rfl, HROW.out, HBEL.out⟩

end Go.Proofs.YtmfemedcjgeheaaGreatDoor
