/- field.Parse, by its contract. -/
import Derived.Test.YtpbnjibomdilhaaGreatDoorReadIt
import Derived.Deep.RegionWith
namespace Go.Proofs.YtpbnjibomdilhaaGreatDoor
open Go.RowKit

/-! a text's pieces -/
theorem size_extract_le (s : ByteArray) (a b : Nat) : (s.extract a b).size ≤ s.size := by rw [ByteArray.size_extract]; omega
theorem pieces_le (sep : ByteArray) : ∀ (n : Nat) (s x : ByteArray), x ∈ Lib.splitB sep 0 n s → x.size ≤ s.size
  | 0, s, x, h => by
    rw [Lib.splitB_zero] at h
    rw [List.mem_singleton.1 h]
    exact Nat.le_refl _
  | n + 1, s, x, h => by
    unfold Lib.splitB at h
    split at h
    · rw [List.mem_singleton.1 h]
      exact Nat.le_refl _
    · rcases List.mem_cons.1 h with rfl | h
      · exact size_extract_le _ _ _
      · exact Nat.le_trans (pieces_le sep n _ x h) (size_extract_le _ _ _)
def pieces (s : ByteArray) : List ByteArray := Lib.splitB ⟨#[44]⟩ 0 (Lib.countB s ⟨#[44]⟩) s
theorem pieces_items (s : ByteArray) : (pieces s).map (·.data.toList) = Fld.items s.data.toList := by
  unfold pieces Fld.items Lib.split
  rw [Lib.splitB_data]
theorem pieces_length (s : ByteArray) : (pieces s).length = Lib.countB s ⟨#[44]⟩ + 1 := Lib.splitB_all _ (by decide) 0 _ s rfl

/-- what lies in memory while a text is parsed: the result, the field, the pieces -/
structure PS (w : World) (acc : Nat) (star : Bool) (xs : List ByteArray) (W : World) : Prop where
  bel : Below w.heap.size w W
  res : W.heap[w.heap.size]? = some (fobj 0 false)
  fld : W.heap[w.heap.size + 1]? = some (fobj acc star)
  row : W.heap[w.heap.size + 2]? = some (.cells (xs.map Value.string).toArray 9 (0, 0))
theorem PS.below {w : World} {acc : Nat} {star : Bool} {xs : List ByteArray} {W W' : World} (p : PS w acc star xs W) (hb : Below W.heap.size W W') : PS w acc star xs W' :=
  ⟨p.bel.trans (hb.mono p.bel.size), (hb.block _ (lt_of_block p.res)).trans p.res, (hb.block _ (lt_of_block p.fld)).trans p.fld, (hb.block _ (lt_of_block p.row)).trans p.row⟩
theorem PS.set {w : World} {acc : Nat} {star : Bool} {xs : List ByteArray} {W : World} (p : PS w acc star xs W) (acc' : Nat) : PS w acc' star xs (W.setCell ⟨w.heap.size + 1, 0, none⟩ (.int .u64 (acc' : Int))) :=
  ⟨p.bel.setCell (p := ⟨w.heap.size + 1, 0, none⟩) (by show _ ≤ w.heap.size + 1; omega) _, (set_else (by omega)).trans p.res, row_set p.fld 0 _, (set_else (by omega)).trans p.row⟩
theorem PS.cells {w : World} {acc : Nat} {star : Bool} {xs : List ByteArray} {W : World} (p : PS w acc star xs W) :
    W.cell? ⟨w.heap.size, 0, none⟩ = some (.int .u64 0) ∧ W.cell? ⟨w.heap.size, 1, none⟩ = some (.bool false) ∧ W.frozen? ⟨w.heap.size, 0, none⟩ = false ∧ W.frozen? ⟨w.heap.size, 1, none⟩ = false ∧
    W.cell? ⟨w.heap.size + 1, 0, none⟩ = some (.int .u64 (acc : Int)) ∧ W.cell? ⟨w.heap.size + 1, 1, none⟩ = some (.bool star) ∧ W.frozen? ⟨w.heap.size + 1, 0, none⟩ = false :=
  ⟨cell_of_row _ _ 0 _ _ _ p.res, cell_of_row _ _ 1 _ _ _ p.res, row_free p.res 0, row_free p.res 1, cell_of_row _ _ 0 _ _ _ p.fld, cell_of_row _ _ 1 _ _ _ p.fld, row_free p.fld 0⟩
theorem PS.done {w : World} {acc : Nat} {star : Bool} {xs : List ByteArray} {W : World} (p : PS w acc star xs W) (b : Nat) (st : Bool) :
    Below w.heap.size w ((W.setCell ⟨w.heap.size, 0, none⟩ (.int .u64 (b : Int))).setCell ⟨w.heap.size, 1, none⟩ (.bool st)) ∧
    ((W.setCell ⟨w.heap.size, 0, none⟩ (.int .u64 (b : Int))).setCell ⟨w.heap.size, 1, none⟩ (.bool st)).heap[w.heap.size]? = some (fobj b st) :=
  ⟨(p.bel.setCell (p := ⟨w.heap.size, 0, none⟩) (Nat.le_refl _) _).setCell (p := ⟨w.heap.size, 1, none⟩) (Nat.le_refl _) _, row_set (row_set p.res 0 _) 1 _⟩
theorem PS.piece {w : World} {acc : Nat} {star : Bool} {xs : List ByteArray} {W : World} (p : PS w acc star xs W) {i : Nat} {x : ByteArray} (h : xs[i]? = some x) : W.cell? ⟨w.heap.size + 2, i, none⟩ = some (.string x) := by
  rw [cell_of_row _ _ i _ _ _ p.row, List.getElem?_toArray, List.getElem?_map, h]
  rfl

/-- what Parse tells -/
def parseOf (k : Nat) (l : List UInt8) : Value := .tuple #[fval (Fld.allows k l) (Fld.free k l), .int .i64 (Fld.err k l : Int)]

set_option maxRecDepth 100000 in
set_option maxHeartbeats 1000000 in
theorem parse_out (k : Int) (hk : ¬ (0 ≤ k ∧ k ≤ 4)) (s : ByteArray) (w : World) : Calls Tryz.prog 98 #[.int .i64 k, .string s] w fun e w' => e = .returned (.tuple #[fval 0 false, .int .i64 2]) ∧ Below w.heap.size w w' := by
  have o : OwnF w w.heap.size 0 false (w.alloc (.cells #[.int .u64 0, .bool false] 99)) := OwnF.new w 0 false
  obtain ⟨c0, c1⟩ := o.cells
  have f0 := o.free 0
  have f1 := o.free 1
  have hK := knownB_out hk
  clear hk
  go_enter Tryz.func98, Tryz.ntmps98
  go_wp2_with fail
  go_step3
  go_wp2_with fail
  with_reducible refine (known_any _ _).mono ?_
  rintro e w1 ⟨rfl, rfl⟩
  go_wp2_with fail
  simp only [Exit.noGoto]
  refine bodyPost_ret (v := .tuple #[fval 0 false, .int .i64 2]) (by simp [results, Tryz.results98, go_sem, c0, c1, fval]) rfl ⟨rfl, o.bel⟩

set_option maxRecDepth 100000 in
set_option maxHeartbeats 1000000 in
theorem parse_long (k : Nat) (hk : k ≤ 4) (s : ByteArray) (hl : 150 < s.size) (w : World) : Calls Tryz.prog 98 #[.int .i64 (k : Int), .string s] w fun e w' => e = .returned (.tuple #[fval 0 false, .int .i64 3]) ∧ Below w.heap.size w w' := by
  have o : OwnF w w.heap.size 0 false (w.alloc (.cells #[.int .u64 0, .bool false] 99)) := OwnF.new w 0 false
  obtain ⟨c0, c1⟩ := o.cells
  have f0 := o.free 0
  have f1 := o.free 1
  have hK := knownB_in hk
  have g1 : decide ((150 : Int) < (s.size : Int)) = true := by simp; omega
  clear hk hl
  go_enter Tryz.func98, Tryz.ntmps98
  go_wp2_with fail
  go_step3
  go_wp2_with fail
  with_reducible refine (known_any _ _).mono ?_
  rintro e w1 ⟨rfl, rfl⟩
  go_wp2_with fail
  simp only [Exit.noGoto]
  refine bodyPost_ret (v := .tuple #[fval 0 false, .int .i64 3]) (by simp [results, Tryz.results98, go_sem, c0, c1, fval]) rfl ⟨rfl, o.bel⟩

/-- a parse's first steps: the result, the field, the pieces -/
theorem PS.start (w : World) (s : ByteArray) (star : Bool) : PS w 0 star (pieces s) (((w.alloc (.cells #[.int .u64 0, .bool false] 99)).alloc (.cells #[.int .u64 0, .bool star] 99)).alloc (.cells ((pieces s).map Value.string).toArray 9)) := by
  have b1 : Below w.heap.size w (w.alloc (.cells #[.int .u64 0, .bool false] 99)) := (Below.refl _ _).alloc (Nat.le_refl _) _
  have h0 := heap_alloc_new w (.cells #[.int .u64 0, .bool false] 99)
  have s1 : (w.alloc (.cells #[.int .u64 0, .bool false] 99)).heap.size = w.heap.size + 1 := by simp
  generalize w.alloc (.cells #[.int .u64 0, .bool false] 99) = w1 at *
  have b2 : Below w1.heap.size w1 (w1.alloc (.cells #[.int .u64 0, .bool star] 99)) := (Below.refl _ _).alloc (Nat.le_refl _) _
  have h1 := heap_alloc_new w1 (.cells #[.int .u64 0, .bool star] 99)
  have s2 : (w1.alloc (.cells #[.int .u64 0, .bool star] 99)).heap.size = w1.heap.size + 1 := by simp
  generalize w1.alloc (.cells #[.int .u64 0, .bool star] 99) = w2 at *
  have b3 : Below w2.heap.size w2 (w2.alloc (.cells ((pieces s).map Value.string).toArray 9)) := (Below.refl _ _).alloc (Nat.le_refl _) _
  have h2 := heap_alloc_new w2 (.cells ((pieces s).map Value.string).toArray 9)
  generalize w2.alloc (.cells ((pieces s).map Value.string).toArray 9) = w3 at *
  rw [s1] at h1
  rw [show w2.heap.size = w.heap.size + 2 by omega] at h2
  exact ⟨(b1.trans (b2.mono (by omega))).trans (b3.mono (by omega)), (b3.block _ (by omega)).trans ((b2.block _ (by omega)).trans h0), (b3.block _ (by omega)).trans h1, h2⟩

/-- the item that was read lies in a block of its own *-/
structure PI (w : World) (I acc : Nat) (star : Bool) (xs : List ByteArray) (f l st : Nat) (W : World) : Prop where
  ps : PS w acc star xs W
  itm : W.heap[I]? = some (iobj f l st)
theorem PI.set {w : World} {I acc : Nat} {star : Bool} {xs : List ByteArray} {f l st : Nat} {W : World} (p : PI w I acc star xs f l st W) (hI : w.heap.size + 1 ≠ I) (acc' : Nat) : PI w I acc' star xs f l st (W.setCell ⟨w.heap.size + 1, 0, none⟩ (.int .u64 (acc' : Int))) :=
  ⟨p.ps.set acc', (set_else hI).trans p.itm⟩
theorem PI.drew {w : World} {I acc : Nat} {star : Bool} {xs : List ByteArray} {f l st : Nat} {W : World} (p : PI w I acc star xs f l st W) : PI w I acc star xs f l st W.drew :=
  ⟨p.ps.below (Below.refl _ _).drew, p.itm⟩
theorem PI.cells {w : World} {I acc : Nat} {star : Bool} {xs : List ByteArray} {f l st : Nat} {W : World} (p : PI w I acc star xs f l st W) :
    W.cell? ⟨I, 0, none⟩ = some (.int .i64 (f : Int)) ∧ W.cell? ⟨I, 1, none⟩ = some (.int .i64 (l : Int)) ∧ W.cell? ⟨I, 2, none⟩ = some (.int .i64 (st : Int)) :=
  ⟨cell_of_row _ _ 0 _ _ _ p.itm, cell_of_row _ _ 1 _ _ _ p.itm, cell_of_row _ _ 2 _ _ _ p.itm⟩
theorem allows_ok {k : Nat} {l : List UInt8} (h : l.length ≤ 150) (he : Fld.errs k (Fld.items l) = 0) : parseOf k l = .tuple #[fval (Fld.ors k (Fld.items l)) (Lib.hasPrefix l [42]), .int .i64 0] := by
  have e : Fld.err k l = 0 := by unfold Fld.err; rw [if_neg (by omega)]; exact he
  unfold parseOf Fld.allows Fld.free
  rw [e]
  simp
theorem allows_bad {k : Nat} {l : List UInt8} {n : Nat} (h : l.length ≤ 150) (hn : n ≠ 0) (he : Fld.errs k (Fld.items l) = n) : parseOf k l = .tuple #[fval 0 false, .int .i64 (n : Int)] := by
  have e : Fld.err k l = n := by unfold Fld.err; rw [if_neg (by omega)]; exact he
  unfold parseOf Fld.allows Fld.free
  rw [e, if_neg hn, decide_eq_false hn]
  rfl
theorem errs_at {k : Nat} {its : List (List UInt8)} {i : Nat} {t : List UInt8} (h : its[i]? = some t) (h0 : Fld.errs k (its.take i) = 0) (ht : Fld.ierr k t ≠ 0) : Fld.errs k its = Fld.ierr k t := by
  have e : its = its.take i ++ t :: its.drop (i + 1) := by
    obtain ⟨hi, ht'⟩ := List.getElem?_eq_some_iff.1 h
    rw [← ht', List.getElem_cons_drop, List.take_append_drop]
  rw [e, Fld.errs_append, if_pos h0, Fld.errs, if_neg ht]
theorem errs_next {k : Nat} {its : List (List UInt8)} {i : Nat} {t : List UInt8} (h : its[i]? = some t) (h0 : Fld.errs k (its.take i) = 0) (ht : Fld.ierr k t = 0) : Fld.errs k (its.take (i + 1)) = 0 ∧ Fld.ors k (its.take (i + 1)) = Fld.ors k (its.take i) ||| Fld.ibits k t := by
  have e : its.take (i + 1) = its.take i ++ [t] := by
    obtain ⟨hi, ht'⟩ := List.getElem?_eq_some_iff.1 h
    rw [List.take_succ_eq_append_getElem hi, ht']
  rw [e, Fld.errs_append, Fld.ors_append, if_pos h0, Fld.errs, if_pos ht, Fld.ors]
  simp [Fld.errs, Fld.ors]
theorem ierr_bad {k : Nat} {t : List UInt8} (h : Fld.good k t = false) : Fld.ierr k t = 60 := by unfold Fld.ierr; rw [if_pos h]
theorem ierr_out {k : Nat} {t : List UInt8} (h : Fld.good k t = true) (hw : Fld.within k (Fld.item k t) = false) : Fld.ierr k t = 61 := by unfold Fld.ierr; rw [if_neg (by rw [h]; decide), if_pos hw]
theorem ierr_ok {k : Nat} {t : List UInt8} (h : Fld.good k t = true) (hw : Fld.within k (Fld.item k t) = true) : Fld.ierr k t = 0 := by unfold Fld.ierr; rw [if_neg (by rw [h]; decide), if_neg (by rw [hw]; decide)]

theorem acc_lt {k : Nat} (hk : k ≤ 4) {f l st : Nat} (hw : Fld.within k ⟨f, l, st⟩ = true) {its : List (List UInt8)} (h0 : Fld.errs k its = 0) {acc : Nat} (ha : acc = Fld.ors k its) (j : Nat) (hj : j ≤ (l - f) / st + 1) : acc ||| Fld.bitsJ k f st j < 18446744073709551616 := by
  obtain ⟨q0, q1, q2, q3, q4⟩ := Fld.within_iff.1 hw
  simp only at q0 q1 q2 q3 q4
  have hhi := (Fld.hi_le hk).2.1
  have : acc ||| Fld.bitsJ k f st j < 2 ^ 60 := Fld.lt_of_bits fun m hm => by
    rw [Nat.testBit_or, Bool.or_eq_true] at hm
    rcases hm with hm | hm
    · rw [ha] at hm
      have := Fld.ors_test hk h0 hm
      omega
    · obtain ⟨i, hi, rfl⟩ := (Fld.bitsJ_test ..).1 hm
      have h1 := Fld.row_in q1 q3 (show i < (l - f) / st + 1 by omega)
      have := Fld.spot_in hk (show Fld.lo k ≤ f + i * st by omega) (by omega)
      omega
  exact Nat.lt_of_lt_of_le this (by decide)

set_option maxRecDepth 100000 in
set_option maxHeartbeats 4000000 in
theorem parse_in (k : Nat) (hk : k ≤ 4) (s : ByteArray) (hl : s.size ≤ 150) (w : World) (hw : TabsOn w) : Calls Tryz.prog 98 #[.int .i64 (k : Int), .string s] w fun e w' => e = .returned (parseOf k s.data.toList) ∧ Below w.heap.size w w' := by
  have o : OwnF w w.heap.size 0 false (w.alloc (.cells #[.int .u64 0, .bool false] 99)) := OwnF.new w 0 false
  obtain ⟨m, hm⟩ := (hw.on o.bel).mx
  have hm2 : ∀ x, ((w.alloc (.cells #[.int .u64 0, .bool false] 99)).alloc x).cell? ⟨3, 0, none⟩ = some (.int .i64 m) := fun x => stays ((Below.refl _ _).alloc (Nat.le_refl _) x) hm
  have CS := Lib.hid (fun x => Tryz.strings_Split s ⟨#[44]⟩ m _ (by omega) (hm2 x) (by decide))
  have hll : s.data.toList.length ≤ 150 := by rw [← Lib.size_eq]; exact hl
  have HOK := Lib.hid (allows_ok (k := k) hll)
  have HBAD := Lib.hid (fun n => allows_bad (k := k) (n := n) hll)
  have HITS := Lib.hid (pieces_items s)
  have HLEN := Lib.hid (pieces_length s)
  have HSZ : Hid (∀ x ∈ pieces s, x.size ≤ 1000000) := Lib.hid fun x hx => Nat.le_trans (pieces_le _ _ _ _ hx) (by omega)
  have HP := Lib.hid (PS.start w s (Lib.hasPrefix s.data.toList [42]))
  have hCL : Lib.countB s ⟨#[44]⟩ ≤ 150 := Nat.le_trans (Lib.countB_le _ (by decide) s.size s (Nat.le_refl _)) hl
  have hK := knownB_in hk
  have g1 : decide ((150 : Int) < (s.size : Int)) = false := by simp; omega
  have HW := Lib.hid hw
  have hsz : s.size ≤ 150 := hl
  clear hm hm2 hll hl o hw
  generalize parseOf k s.data.toList = RES at *
  go_enter Tryz.func98, Tryz.ntmps98
  go_wp2_with fail
  go_step3
  go_wp2_with fail
  with_reducible refine (known_any _ _).mono ?_
  rintro e w1 ⟨rfl, rfl⟩
  go_wp2_with fail
  with_reducible refine (Tryz.strings_HasPrefix _ _ _).mono ?_
  rintro e w1 ⟨rfl, rfl⟩
  go_wp2_with fail
  go_step3
  go_wp2_with fail
  with_reducible refine (CS.out _).mono ?_
  rintro e w1 ⟨rfl, rfl⟩
  clear CS
  go_wp2_with fail
  unfold pieces at HITS HLEN HSZ HP
  generalize Lib.splitB ⟨#[44]⟩ 0 (Lib.countB s ⟨#[44]⟩) s = xs at *
  generalize Lib.countB s ⟨#[44]⟩ = C at *
  generalize Lib.hasPrefix s.data.toList [42] = star at *
  have p0 := HP.out
  generalize (((w.alloc (.cells #[.int .u64 0, .bool false] 99)).alloc (.cells #[.int .u64 0, .bool star] 99)).alloc (.cells (xs.map Value.string).toArray 9)) = W0 at *
  clear HP
  rw [← HITS.out] at HOK HBAD
  clear HITS
  go_loopg [26] (C + 1) (fun g t wx => ∃ i acc : Nat, i + g = C + 1 ∧ t = .int .i64 i ∧ PS w acc star xs wx ∧ Fld.errs k ((xs.map (·.data.toList)).take i) = 0 ∧ acc = Fld.ors k ((xs.map (·.data.toList)).take i))
  case atStart => exact ⟨0, 0, by omega, rfl, p0, rfl, rfl⟩
  case round =>
    obtain ⟨i, acc, hig, rfl, ps, hno, hacc⟩ := hrel
    have HNO := Lib.hid hno
    have HACC := Lib.hid hacc
    have HPS := Lib.hid ps
    clear hno hacc
    have b9 : 1 ≤ w.heap.size := by
      have := lt_of_cell (HW.out.here.low 0 (by omega)).1
      exact Nat.lt_of_le_of_lt (Nat.zero_le _) this
    cases gk with
    | zero =>
      obtain rfl : i = C + 1 := by omega
      obtain ⟨c0, c1, c2, c3, c4, c5, c6⟩ := ps.cells
      have hlt : ¬ (((C + 1 : Nat) : Int) < (C : Int) + 1) := by omega
      clear ps
      go_wp2_with fail
      obtain ⟨hbF, hrF⟩ := HPS.out.done acc star
      generalize ((wr.setCell ⟨w.heap.size, 0, none⟩ (.int .u64 (acc : Int))).setCell ⟨w.heap.size, 1, none⟩ (.bool star)) = WF at *
      have d0 : WF.cell? ⟨w.heap.size, 0, none⟩ = some (.int .u64 (acc : Int)) := cell_of_row WF _ 0 _ _ _ hrF
      have d1 : WF.cell? ⟨w.heap.size, 1, none⟩ = some (.bool star) := cell_of_row WF _ 1 _ _ _ hrF
      refine bodyPost_ret (v := .tuple #[fval acc star, .int .i64 0]) (by simp [results, Tryz.results98, go_sem, d0, d1, fval]) rfl ⟨?_, hbF⟩
      have hall : (xs.map (·.data.toList)).take (C + 1) = xs.map (·.data.toList) := List.take_of_length_le (by rw [List.length_map, HLEN.out]; exact Nat.le_refl _)
      have h1 := HNO.out
      have h2 := HACC.out
      rw [hall] at h1 h2
      rw [HOK.out h1, h2]
    | succ g =>
      have hiC : i < C + 1 := by omega
      have hlt : (i : Int) < (C : Int) + 1 := by omega
      obtain ⟨x, hx⟩ : ∃ x, xs[i]? = some x := ⟨xs[i]'(by rw [HLEN.out]; exact hiC), List.getElem?_eq_getElem _⟩
      have cx := ps.piece hx
      have hxs := HSZ.out x (List.mem_of_getElem? hx)
      have CR := read_any k hk x hxs _ (HW.out.next ps.bel)
      have hX : (xs.map (·.data.toList))[i]? = some x.data.toList := by rw [List.getElem?_map, hx]; rfl
      have HAT : Hid (Fld.ierr k x.data.toList ≠ 0 → Fld.errs k (xs.map (·.data.toList)) = Fld.ierr k x.data.toList) := Lib.hid fun h => errs_at hX HNO.out h
      have HNX : Hid (Fld.ierr k x.data.toList = 0 → Fld.errs k ((xs.map (·.data.toList)).take (i + 1)) = 0 ∧ Fld.ors k ((xs.map (·.data.toList)).take (i + 1)) = Fld.ors k ((xs.map (·.data.toList)).take i) ||| Fld.bits k (Fld.item k x.data.toList)) := Lib.hid fun h => errs_next hX HNO.out h
      have HE1 := Lib.hid (ierr_bad (k := k) (t := x.data.toList))
      have HE2 := Lib.hid (ierr_out (k := k) (t := x.data.toList))
      have HE3 := Lib.hid (ierr_ok (k := k) (t := x.data.toList))
      generalize Fld.item k x.data.toList = it at *
      generalize Fld.good k x.data.toList = gd at *
      generalize Fld.ierr k x.data.toList = ie at *
      obtain ⟨f, l, st⟩ := it
      simp only at CR
      have HR := Lib.hid CR
      clear hx hxs ps CR hX
      go_wp2_with fail
      with_reducible refine HR.out.mono ?_
      rintro e w1 ⟨rfl, hb1⟩
      clear cx HR
      have ps1 := (HPS.out.below hb1).below ((Below.refl _ _).alloc (Nat.le_refl _) (.cells #[.int .i64 (f : Int), .int .i64 (l : Int), .int .i64 (st : Int)] 152))
      have hI := heap_alloc_new w1 (.cells #[.int .i64 (f : Int), .int .i64 (l : Int), .int .i64 (st : Int)] 152)
      have hIn : w.heap.size + 1 ≠ w1.heap.size := by
        have h1 := lt_of_block HPS.out.row
        have h2 := hb1.size
        omega
      have pi1 : PI w w1.heap.size acc star xs f l st (w1.alloc (.cells #[.int .i64 (f : Int), .int .i64 (l : Int), .int .i64 (st : Int)] 152)) := ⟨ps1, hI⟩
      obtain ⟨c0, c1, c2, c3, c4, c5, c6⟩ := ps1.cells
      obtain ⟨i0, i1, i2⟩ := pi1.cells
      have HPI := Lib.hid pi1
      have HI2 := Lib.hid hI
      clear hI pi1 hb1 ps1
      unfold itemV
      cases gd
      · have hie := HE1.out rfl
        subst hie
        have HER := Lib.hid (HBAD.out 60 (by decide) (HAT.out (by decide)))
        clear HBAD HAT HNX HE1 HE2 HE3 HOK
        go_wp2_with fail
        simp only [Exit.noGoto]
        obtain ⟨hbF, hrF⟩ := HPI.out.ps.done 0 false
        have d0 := cell_of_row _ _ 0 _ _ _ hrF
        have d1 := cell_of_row _ _ 1 _ _ _ hrF
        simp only [Int.natCast_zero] at d0 d1 hbF
        refine bodyPost_ret (v := .tuple #[fval 0 false, .int .i64 60]) (by simp [results, Tryz.results98, go_sem, d0, d1, fval]) rfl ⟨by rw [HER.out]; rfl, hbF⟩
      · have CW0 := within_any k f l st hk _ (HW.out.next HPI.out.ps.bel)
        unfold itemV at CW0
        have CW := Lib.hid CW0
        clear CW0
        go_wp2_with fail
        with_reducible refine CW.out.mono ?_
        rintro e w2 ⟨rfl, hb2⟩
        have pi2 : PI w w1.heap.size acc star xs f l st w2 := ⟨HPI.out.ps.below hb2, (hb2.block _ (lt_of_block HI2.out)).trans HI2.out⟩
        clear c0 c1 c2 c3 c4 c5 c6 i0 i1 i2 HPI HI2 CW hb2
        obtain ⟨c0, c1, c2, c3, c4, c5, c6⟩ := pi2.ps.cells
        obtain ⟨i0, i1, i2⟩ := pi2.cells
        have HPI := Lib.hid pi2
        clear pi2
        cases hwi : Fld.within k ⟨f, l, st⟩
        · have hie := HE2.out trivial hwi
          subst hie
          have HER := Lib.hid (HBAD.out 61 (by decide) (HAT.out (by decide)))
          clear HBAD HAT HNX HE1 HE2 HE3 HOK hwi
          go_wp2_with fail
          simp only [Exit.noGoto]
          obtain ⟨hbF, hrF⟩ := HPI.out.ps.done 0 false
          have d0 := cell_of_row _ _ 0 _ _ _ hrF
          have d1 := cell_of_row _ _ 1 _ _ _ hrF
          simp only [Int.natCast_zero] at d0 d1 hbF
          refine bodyPost_ret (v := .tuple #[fval 0 false, .int .i64 61]) (by simp [results, Tryz.results98, go_sem, d0, d1, fval]) rfl ⟨by rw [HER.out]; rfl, hbF⟩
        · have hie := HE3.out trivial hwi
          subst hie
          obtain ⟨hn0, hn1⟩ := HNX.out rfl
          have HN0 := Lib.hid hn0
          have HN1 := Lib.hid hn1
          obtain ⟨q0, q1, q2, q3, q4⟩ := Fld.within_iff.1 hwi
          simp only at q0 q1 q2 q3 q4
          have htop := Fld.top_le hk
          have HBT := Lib.hid (show Fld.bits k ⟨f, l, st⟩ = Fld.bitsJ k f st ((l - f) / st + 1) from rfl)
          have HIN : Hid (∀ j, j < (l - f) / st + 1 → f + j * st ≤ l) := Lib.hid fun j hj => Fld.row_in q1 q3 hj
          have HOUT : Hid (l < f + ((l - f) / st + 1) * st) := Lib.hid (Fld.row_out q1 q3)
          have HACC64 : Hid (∀ j, j ≤ (l - f) / st + 1 → acc ||| Fld.bitsJ k f st j < 18446744073709551616) := Lib.hid fun j hj => acc_lt hk hwi HNO.out HACC.out j hj
          have q5 : l ≤ 59 := by omega
          generalize (l - f) / st + 1 = J at *
          clear hn0 hn1 hwi htop q0 q2 HAT HNX HE1 HE2 HE3 HBAD
          go_wp2_with fail
          go_loopg [11] J (fun g t wx => ∃ j n : Nat, j + g = J ∧ n = f + j * st ∧ t = .int .i64 n ∧ PI w w1.heap.size (acc ||| Fld.bitsJ k f st j) star xs f l st wx)
          case atStart => exact ⟨0, f, by omega, by omega, rfl, by rw [Fld.bitsJ, Nat.or_zero]; exact HPI.out⟩
          case round =>
            obtain ⟨j, n, hj, hn, rfl, pj⟩ := hrel
            have HPJ := Lib.hid pj
            obtain ⟨c0, c1, c2, c3, c4, c5, c6⟩ := pj.ps.cells
            obtain ⟨i0, i1, i2⟩ := pj.cells
            clear pj
            cases gk with
            | zero =>
              obtain rfl : j = J := by omega
              have hgt : l < n := by rw [hn]; exact HOUT.out
              have g9 : decide (l < n) = true := decide_eq_true hgt
              go_wp2_with fail
              go_roundg g
              case measure => omega
              case rel => exact ⟨i + 1, acc ||| Fld.bitsJ k f st j, by omega, by go_num, HPJ.out.ps, HN0.out, by rw [HN1.out, HBT.out, ← HACC.out]⟩
            | succ g2 =>
              have hle : n ≤ l := by rw [hn]; exact HIN.out j (by omega)
              have g9 : decide (l < n) = false := decide_eq_false (by omega)
              have hA2 := HACC64.out (j + 1) (by omega)
              have hA1 := HACC64.out j (by omega)
              have eA : acc ||| Fld.bitsJ k f st (j + 1) = (acc ||| Fld.bitsJ k f st j) ||| Fld.bit k n := by rw [Fld.bitsJ, ← hn, Nat.or_assoc]
              have hbt : Fld.bit k n < 18446744073709551616 := by
                have : Fld.bit k n ≤ (acc ||| Fld.bitsJ k f st j) ||| Fld.bit k n := Nat.right_le_or
                rw [← eA] at this
                omega
              have eO : bits .or .u64 ((acc ||| Fld.bitsJ k f st j : Nat) : Int) ((Fld.bit k n : Nat) : Int) = ((acc ||| Fld.bitsJ k f st (j + 1) : Nat) : Int) := by rw [u64_or_nat _ _ hA1 hbt, eA]
              have HPN := Lib.hid (HPJ.out.set hIn (acc ||| Fld.bitsJ k f st (j + 1)))
              have HBB := Lib.hid (fun W => bit_any k n W (by omega))
              have HNN := Lib.hid hn
              clear hn eA hA1 hA2 hbt
              generalize hA2' : acc ||| Fld.bitsJ k f st (j + 1) = A2 at *
              have HA2 := Lib.hid hA2'
              clear hA2'
              generalize acc ||| Fld.bitsJ k f st j = A1 at *
              generalize Fld.bit k n = bt at *
              go_wp2_with fail
              go_region_with (go_at_call 113; refine (HBB.out _).mono ?_; rintro e w3 ⟨rfl, rfl⟩)
              all_goals
                have HQ := HPN.out.drew
                generalize (wr.setCell ⟨w.heap.size + 1, 0, none⟩ (.int .u64 (A2 : Int))).drew = WN at HQ ⊢
                clear c0 c1 c2 c3 c4 c5 c6 i0 i1 i2 eO
                obtain ⟨i0, i1, i2⟩ := HQ.cells
                have HQ := Lib.hid HQ
                go_wp2_with fail
                go_roundg g2
                case measure => omega
                case rel => exact ⟨j + 1, n + st, by omega, by rw [HNN.out, Nat.add_mul]; omega, by go_num, by rw [HA2.out]; exact HQ.out⟩
theorem parse_any (k : Nat) (hk : k ≤ 4) (s : ByteArray) (w : World) (hw : TabsOn w) : Calls Tryz.prog 98 #[.int .i64 (k : Int), .string s] w fun e w' => e = .returned (parseOf k s.data.toList) ∧ Below w.heap.size w w' := by
  by_cases h : s.size ≤ 150
  · exact parse_in k hk s h w hw
  · refine (parse_long k hk s (by omega) w).mono fun e w' ⟨he, hb⟩ => ⟨?_, hb⟩
    have e0 : Fld.err k s.data.toList = 3 := by unfold Fld.err; rw [if_pos (by rw [← Lib.size_eq]; omega)]
    rw [he]
    unfold parseOf Fld.allows Fld.free
    rw [e0]
    rfl
end Go.Proofs.YtpbnjibomdilhaaGreatDoor
