/- field.all, field.May, field.run, by their contracts. cron.May and the reference's, by their contracts. cron.spelled, by its contract. cron.spelled, by its contract. -/
import Derived.Test.YtpbnjibomdilhaaGreatDoorMab
import Derived.Deep.LoopGhost
import Derived.Test.YtpbnjibomdilhaaGreatDoorMac
import Derived.Test.YtpbnjibomdilhaaGreatDoorParse
namespace Go.Proofs.YtpbnjibomdilhaaGreatDoor
open Go.RowKit

def SomeDrew (v : Value) (w : World) (e : Ending) (w' : World) : Prop := e = .returned v ∧ ∃ n, w' = w.drewN n
theorem nat_zero (x : Nat) : decide (x = 0) = ((x : Int) == 0) := by
  by_cases h : x = 0
  · rw [decide_eq_true h, h]; rfl
  · rw [decide_eq_false h]; symm; rw [beq_eq_false_iff_ne]; omega
theorem known_same (k : Int) (w : World) : Calls Tryz.prog 110 #[.int .i64 k] w fun e w' => e = .returned (.bool (knownB k)) ∧ w' = w := (known_any k w).mono fun _ _ ⟨h1, h2⟩ => ⟨h1, h2.symm⟩
theorem ba_app (a b : List UInt8) : ba a ++ ba b = ba (a ++ b) := by
  apply ByteArray.ext
  show (ba a ++ ba b).data = _
  rw [ByteArray.data_append]
  simp [ba]
end Go.Proofs.YtpbnjibomdilhaaGreatDoor

namespace Go.Proofs.YtpbnjibomdilhaaGreatDoor
open Go.RowKit

end Go.Proofs.YtpbnjibomdilhaaGreatDoor

namespace Go.Proofs.YtpbnjibomdilhaaGreatDoor
open Go.RowKit

/-! whether a text is one of a row's -/
set_option maxRecDepth 100000 in
set_option maxHeartbeats 1000000 in
theorem indexS_any (g : Nat) (xs : List ByteArray) (t : ByteArray) (hn : xs.length ≤ 1000000) (w : World) (hc : ∀ (i : Nat) x, xs[i]? = some x → w.cell? ⟨g, i, none⟩ = some (.string x)) (C : Nat) :
    Calls Tryz.prog 109 #[.slice (some ⟨g, 0, none⟩) xs.length C, .string t] w fun e w' => (∃ r : Int, e = .returned (.int .i64 r) ∧ (0 ≤ r ↔ t.data.toList ∈ xs.map (·.data.toList))) ∧ Below w.heap.size w w' := by
  have HC := Lib.hid hc
  clear hc
  go_enter Tryz.func109, Tryz.ntmps109
  go_wp2_with fail
  go_loopg [8] xs.length (fun g v wx => wx = w ∧ ∃ i : Nat, i + g = xs.length ∧ v = .int .i64 i ∧ t.data.toList ∉ (xs.map (·.data.toList)).take i)
  case atStart => exact ⟨rfl, 0, by omega, rfl, by simp⟩
  case round =>
    obtain ⟨rfl, i, hig, rfl, hno⟩ := hrel
    have HN := Lib.hid hno
    clear hno
    cases gk with
    | zero =>
      obtain rfl : i = xs.length := by omega
      go_wp2_with fail
      go_ret
      exact ⟨⟨-1, rfl, ⟨fun h => absurd h (by omega), fun h => absurd h (by have := HN.out; rw [← List.length_map (f := fun x : ByteArray => x.data.toList), List.take_length] at this; exact this)⟩⟩, Below.refl _ _⟩
    | succ k =>
      have hi : i < xs.length := by omega
      have hlt : (i : Int) < (xs.length : Int) := by omega
      obtain ⟨x, hx⟩ : ∃ x, xs[i]? = some x := ⟨xs[i], List.getElem?_eq_getElem hi⟩
      have cx := HC.out i x hx
      have HX := Lib.hid hx
      clear hx
      have hxm : (xs.map (·.data.toList))[i]? = some x.data.toList := by rw [List.getElem?_map, HX.out]; rfl
      have HXM := Lib.hid hxm
      clear hxm
      by_cases e : t.data.toList = x.data.toList
      · have he : (t.toList == x.toList) = true := by rw [Lib.toList_data, Lib.toList_data, e]; exact beq_self_eq_true _
        have HE := Lib.hid e
        clear e
        go_wp2_with fail
        go_ret
        exact ⟨⟨i, rfl, ⟨fun _ => by rw [HE.out]; exact List.mem_of_getElem? HXM.out, fun _ => by omega⟩⟩, Below.refl _ _⟩
      · have he : (t.toList == x.toList) = false := by rw [Lib.toList_data, Lib.toList_data]; exact beq_eq_false_iff_ne.2 e
        have HE := Lib.hid e
        clear e
        go_wp2_with fail
        go_roundg k
        case measure => omega
        case rel => exact ⟨rfl, i + 1, by omega, by go_num, by
          obtain ⟨hi', hx'⟩ := List.getElem?_eq_some_iff.1 HXM.out
          rw [List.take_succ_eq_append_getElem hi', hx']
          simp only [List.mem_append, List.mem_singleton, not_or]
          exact ⟨HN.out, HE.out⟩⟩

set_option maxRecDepth 100000 in
set_option maxHeartbeats 1000000 in
theorem contains_any (g : Nat) (xs : List ByteArray) (t : ByteArray) (hn : xs.length ≤ 1000000) (w : World) (hc : ∀ (i : Nat) x, xs[i]? = some x → w.cell? ⟨g, i, none⟩ = some (.string x)) (C : Nat) :
    Calls Tryz.prog 97 #[.slice (some ⟨g, 0, none⟩) xs.length C, .string t] w fun e w' => e = .returned (.bool ((xs.map (·.data.toList)).contains t.data.toList)) ∧ Below w.heap.size w w' := by
  have HI := Lib.hid (indexS_any g xs t hn w hc C)
  clear hc
  go_enter Tryz.func97, Tryz.ntmps97
  go_wp2_with fail
  with_reducible refine HI.out.mono ?_
  rintro e w1 ⟨⟨r, rfl, hr⟩, hb⟩
  have HR : Hid (decide (0 ≤ r) = (xs.map (·.data.toList)).contains t.data.toList) := Lib.hid (by
    rw [Bool.eq_iff_iff, decide_eq_true_eq, hr, List.contains_iff_mem])
  clear hr HI
  go_wp2_with fail
  go_ret
  exact ⟨by rw [← HR.out]; rfl, hb⟩
end Go.Proofs.YtpbnjibomdilhaaGreatDoor

namespace Go.Proofs.YtpbnjibomdilhaaGreatDoor
open Go.RowKit

def blanks (s : ByteArray) : List ByteArray := Lib.splitB ⟨#[32]⟩ 0 (Lib.countB s ⟨#[32]⟩) s
theorem blanks_parts (s : ByteArray) : (blanks s).map (·.data.toList) = Cron.parts s.data.toList := by
  unfold blanks Cron.parts Lib.split
  rw [Lib.splitB_data]
theorem blanks_length (s : ByteArray) : (blanks s).length = Lib.countB s ⟨#[32]⟩ + 1 := Lib.splitB_all _ (by decide) 0 _ s rfl
/-- what lies in memory while an expression is parsed: the result, the expression so far, the parts -/
structure SP (w : World) (b : Nat → Nat) (s : Nat → Bool) (xs : List ByteArray) (W : World) : Prop where
  bel : Below w.heap.size w W
  res : W.heap[w.heap.size]? = some (xobj (fun _ => 0) (fun _ => false))
  exp : W.heap[w.heap.size + 1]? = some (xobj b s)
  row : W.heap[w.heap.size + 2]? = some (.cells (xs.map Value.string).toArray 9 (0, 0))
theorem SP.below {w : World} {b : Nat → Nat} {s : Nat → Bool} {xs : List ByteArray} {W W' : World} (p : SP w b s xs W) (hb : Below W.heap.size W W') : SP w b s xs W' :=
  ⟨p.bel.trans (hb.mono p.bel.size), (hb.block _ (lt_of_block p.res)).trans p.res, (hb.block _ (lt_of_block p.exp)).trans p.exp, (hb.block _ (lt_of_block p.row)).trans p.row⟩
theorem SP.piece {w : World} {b : Nat → Nat} {s : Nat → Bool} {xs : List ByteArray} {W : World} (p : SP w b s xs W) (i : Nat) (x : ByteArray) (h : xs[i]? = some x) : W.cell? ⟨w.heap.size + 2, i, none⟩ = some (.string x) := by
  rw [cell_of_row _ _ i _ _ _ p.row, List.getElem?_toArray, List.getElem?_map, h]
  rfl
/-- an expression is stored whole -/
def putX (W : World) (B : Nat) (b : Nat → Nat) (s : Nat → Bool) : World :=
  (((((((((W.setCell ⟨B, 0, none⟩ (.int .u64 ((b 0 : Nat) : Int))).setCell ⟨B, 1, none⟩ (.bool (s 0))).setCell ⟨B, 2, none⟩ (.int .u64 ((b 1 : Nat) : Int))).setCell ⟨B, 3, none⟩ (.bool (s 1))).setCell ⟨B, 4, none⟩ (.int .u64 ((b 2 : Nat) : Int))).setCell ⟨B, 5, none⟩ (.bool (s 2))).setCell ⟨B, 6, none⟩ (.int .u64 ((b 3 : Nat) : Int))).setCell ⟨B, 7, none⟩ (.bool (s 3))).setCell ⟨B, 8, none⟩ (.int .u64 ((b 4 : Nat) : Int))).setCell ⟨B, 9, none⟩ (.bool (s 4))
theorem putX_row {W : World} {B : Nat} {b b' : Nat → Nat} {s s' : Nat → Bool} (h : W.heap[B]? = some (xobj b' s')) : (putX W B b s).heap[B]? = some (xobj b s) := by
  unfold xobj xcells at h
  have a0 := row_set h 0 (.int .u64 ((b 0 : Nat) : Int))
  have a1 := row_set a0 1 (.bool (s 0))
  have a2 := row_set a1 2 (.int .u64 ((b 1 : Nat) : Int))
  have a3 := row_set a2 3 (.bool (s 1))
  have a4 := row_set a3 4 (.int .u64 ((b 2 : Nat) : Int))
  have a5 := row_set a4 5 (.bool (s 2))
  have a6 := row_set a5 6 (.int .u64 ((b 3 : Nat) : Int))
  have a7 := row_set a6 7 (.bool (s 3))
  have a8 := row_set a7 8 (.int .u64 ((b 4 : Nat) : Int))
  have a9 := row_set a8 9 (.bool (s 4))
  unfold putX
  rw [a9]
  simp [xobj, xcells]
theorem putX_else {W : World} {B g : Nat} {b : Nat → Nat} {s : Nat → Bool} (h : B ≠ g) : (putX W B b s).heap[g]? = W.heap[g]? := by
  unfold putX
  rw [set_else h, set_else h, set_else h, set_else h, set_else h, set_else h, set_else h, set_else h, set_else h, set_else h]
theorem putX_below {n : Nat} {w W : World} {B : Nat} {b : Nat → Nat} {s : Nat → Bool} (h : Below n w W) (hB : n ≤ B) : Below n w (putX W B b s) :=
  (((((((((h.setCell (p := ⟨B, 0, none⟩) hB _).setCell (p := ⟨B, 1, none⟩) hB _).setCell (p := ⟨B, 2, none⟩) hB _).setCell (p := ⟨B, 3, none⟩) hB _).setCell (p := ⟨B, 4, none⟩) hB _).setCell (p := ⟨B, 5, none⟩) hB _).setCell (p := ⟨B, 6, none⟩) hB _).setCell (p := ⟨B, 7, none⟩) hB _).setCell (p := ⟨B, 8, none⟩) hB _).setCell (p := ⟨B, 9, none⟩) hB _
/-- a field is stored within an expression -/
def upd {α : Type} (b : Nat → α) (i : Nat) (x : α) : Nat → α := fun k => if k = i then x else b k
theorem field_row {W : World} {B : Nat} {b : Nat → Nat} {s : Nat → Bool} (h : W.heap[B]? = some (xobj b s)) (x : Nat) (t : Bool) : ∀ i, i < 5 → ((W.setCell ⟨B, i * 2, none⟩ (.int .u64 (x : Int))).setCell ⟨B, i * 2 + 1, none⟩ (.bool t)).heap[B]? = some (xobj (upd b i x) (upd s i t)) := by
  unfold xobj at h
  have a := fun i : Nat => row_set (row_set h (i * 2) (.int .u64 (x : Int))) (i * 2 + 1) (.bool t)
  refine five ?_ ?_ ?_ ?_ ?_ <;> rw [a] <;> simp [xobj, xcells, upd]
theorem SP.field {w : World} {b : Nat → Nat} {s : Nat → Bool} {xs : List ByteArray} {W : World} (p : SP w b s xs W) (x : Nat) (t : Bool) (i : Nat) (hi : i < 5) : SP w (upd b i x) (upd s i t) xs ((W.setCell ⟨w.heap.size + 1, i * 2, none⟩ (.int .u64 (x : Int))).setCell ⟨w.heap.size + 1, i * 2 + 1, none⟩ (.bool t)) :=
  ⟨(p.bel.setCell (p := ⟨w.heap.size + 1, i * 2, none⟩) (by show _ ≤ w.heap.size + 1; omega) _).setCell (p := ⟨w.heap.size + 1, i * 2 + 1, none⟩) (by show _ ≤ w.heap.size + 1; omega) _,
    (set_else (by omega)).trans ((set_else (by omega)).trans p.res), field_row p.exp x t i hi, (set_else (by omega)).trans ((set_else (by omega)).trans p.row)⟩
theorem SP.done {w : World} {b : Nat → Nat} {s : Nat → Bool} {xs : List ByteArray} {W : World} (p : SP w b s xs W) (b' : Nat → Nat) (s' : Nat → Bool) : Below w.heap.size w (putX W w.heap.size b' s') ∧ (putX W w.heap.size b' s').heap[w.heap.size]? = some (xobj b' s') :=
  ⟨putX_below p.bel (Nat.le_refl _), putX_row p.res⟩
abbrev zeroX : Array Value := #[.int .u64 0, .bool false, .int .u64 0, .bool false, .int .u64 0, .bool false, .int .u64 0, .bool false, .int .u64 0, .bool false]
theorem SP.start (w : World) (xs : List ByteArray) : SP w (fun _ => 0) (fun _ => false) xs (((w.alloc (.cells zeroX 101)).alloc (.cells zeroX 101)).alloc (.cells (xs.map Value.string).toArray 9)) := by
  have b1 : Below w.heap.size w (w.alloc (.cells zeroX 101)) := (Below.refl _ _).alloc (Nat.le_refl _) _
  have h0 := heap_alloc_new w (.cells zeroX 101)
  have s1 : (w.alloc (.cells zeroX 101)).heap.size = w.heap.size + 1 := by simp
  generalize w.alloc (.cells zeroX 101) = w1 at *
  have b2 : Below w1.heap.size w1 (w1.alloc (.cells zeroX 101)) := (Below.refl _ _).alloc (Nat.le_refl _) _
  have h1 := heap_alloc_new w1 (.cells zeroX 101)
  have s2 : (w1.alloc (.cells zeroX 101)).heap.size = w1.heap.size + 1 := by simp
  generalize w1.alloc (.cells zeroX 101) = w2 at *
  have b3 : Below w2.heap.size w2 (w2.alloc (.cells (xs.map Value.string).toArray 9)) := (Below.refl _ _).alloc (Nat.le_refl _) _
  have h2 := heap_alloc_new w2 (.cells (xs.map Value.string).toArray 9)
  generalize w2.alloc (.cells (xs.map Value.string).toArray 9) = w3 at *
  rw [s1] at h1
  rw [show w2.heap.size = w.heap.size + 2 by omega] at h2
  exact ⟨(b1.trans (b2.mono (by omega))).trans (b3.mono (by omega)), (b3.block _ (by omega)).trans ((b2.block _ (by omega)).trans h0), (b3.block _ (by omega)).trans h1, h2⟩

namespace Cron
def partB (ps : List (List UInt8)) (i : Nat) (k : Nat) : Nat := if k < i then Fld.allows k (ps.getD k []) else 0
def partS (ps : List (List UInt8)) (i : Nat) (k : Nat) : Bool := if k < i then Fld.free k (ps.getD k []) else false
theorem partB_next (ps : List (List UInt8)) (i : Nat) : upd (partB ps i) i (Fld.allows i (ps.getD i [])) = partB ps (i + 1) := by
  funext k
  unfold upd partB
  by_cases h : k = i
  · subst h; rw [if_pos rfl, if_pos (by omega)]
  · rw [if_neg h]
    by_cases h2 : k < i
    · rw [if_pos h2, if_pos (by omega)]
    · rw [if_neg h2, if_neg (by omega)]
theorem partS_next (ps : List (List UInt8)) (i : Nat) : upd (partS ps i) i (Fld.free i (ps.getD i [])) = partS ps (i + 1) := by
  funext k
  unfold upd partS
  by_cases h : k = i
  · subst h; rw [if_pos rfl, if_pos (by omega)]
  · rw [if_neg h]
    by_cases h2 : k < i
    · rw [if_pos h2, if_pos (by omega)]
    · rw [if_neg h2, if_neg (by omega)]
theorem sp_all {l : List UInt8} (h : spErr l = 0) : xcells (spB l) (spS l) = xcells (partB (parts l) 5) (partS (parts l) 5) := by
  unfold xcells spB spS partB partS
  simp [h]
theorem sp_none {l : List UInt8} (h : spErr l ≠ 0) : xcells (spB l) (spS l) = xcells (fun _ => 0) (fun _ => false) := by
  unfold xcells spB spS
  simp [h]
end Cron

set_option maxRecDepth 100000 in
set_option maxHeartbeats 4000000 in
theorem spelled_any (s : ByteArray) (hl : s.size ≤ 400) (w : World) (hw : TabsOn w) : Calls Tryz.prog 84 #[.string s] w fun e w' => e = .returned (.tuple #[xval (Cron.spB s.data.toList) (Cron.spS s.data.toList), .int .i64 (Cron.spErr s.data.toList : Int)]) ∧ Below w.heap.size w w' := by
  have o : OwnX w w.heap.size (fun _ => 0) (fun _ => false) (w.alloc (.cells zeroX 101)) := OwnX.new w (fun _ => 0) (fun _ => false)
  obtain ⟨m, hm⟩ := ((hw.next o.bel).on ((Below.refl _ _).alloc (Nat.le_refl _) (.cells zeroX 101))).mx
  have CS := Lib.hid (Tryz.strings_Split s ⟨#[32]⟩ m _ (by omega) hm (by decide))
  have HP := Lib.hid (SP.start w (blanks s))
  have HLEN := Lib.hid (blanks_length s)
  have HPT := Lib.hid (blanks_parts s)
  have hCL : Lib.countB s ⟨#[32]⟩ ≤ 400 := Nat.le_trans (Lib.countB_le _ (by decide) s.size s (Nat.le_refl _)) hl
  have HW := Lib.hid hw
  clear o hm hw hl
  go_enter Tryz.func84, Tryz.ntmps84
  go_wp2_with fail
  with_reducible refine CS.out.mono ?_
  rintro e w1 ⟨rfl, rfl⟩
  clear CS
  have esz : ((w.alloc (.cells zeroX 101)).alloc (.cells zeroX 101)).heap.size = w.heap.size + 1 + 1 := by simp
  rw [esz]
  clear esz
  unfold blanks at HLEN HP HPT
  generalize Lib.splitB ⟨#[32]⟩ 0 (Lib.countB s ⟨#[32]⟩) s = xs at *
  generalize Lib.countB s ⟨#[32]⟩ = C at *
  have p0 := HP.out
  clear HP
  have e2 : w.heap.size + 1 + 1 = w.heap.size + 2 := rfl
  generalize (((w.alloc (.cells zeroX 101)).alloc (.cells zeroX 101)).alloc (.cells (xs.map Value.string).toArray 9)) = W0 at *
  have HP0 := Lib.hid p0
  clear p0
  obtain ⟨c0, c1, c2, c3, c4, c5, c6, c7, c8, c9⟩ := xobj_cells HP0.out.res
  have f := fun j => row_free HP0.out.res j
  by_cases hC : C = 4
  · subst hC
    have CT := contains_any (w.heap.size + 1 + 1) xs ⟨#[]⟩ (by rw [HLEN.out]; decide) W0 (fun i x h => HP0.out.piece i x h) (4 + 1)
    rw [HLEN.out] at CT
    have CT2 := Lib.hid CT
    have HW1 : Hid ((xs.map (·.data.toList)).contains [] = false → Cron.whole s.data.toList = true) := Lib.hid (fun h => by
      unfold Cron.whole
      rw [← HPT.out, h, List.length_map, HLEN.out]
      rfl)
    have HW0 : Hid ((xs.map (·.data.toList)).contains [] = true → Cron.spErr s.data.toList = 70) := Lib.hid (fun h => by
      unfold Cron.spErr Cron.whole
      rw [if_neg]
      rw [← HPT.out, h]
      simp)
    clear CT
    go_wp2_with fail
    with_reducible refine CT2.out.mono ?_
    rintro e w1 ⟨rfl, hb1⟩
    have HP1 := Lib.hid (HP0.out.below hb1)
    clear CT2 c0 c1 c2 c3 c4 c5 c6 c7 c8 c9 f hb1
    cases hq : (xs.map (·.data.toList)).contains []
    · have HWH := Lib.hid (HW1.out hq)
      clear hq HW1 HW0 HP0
      go_wp2_with fail
      have p1 : SP w (Cron.partB (Cron.parts s.data.toList) 0) (Cron.partS (Cron.parts s.data.toList) 0) xs w1 := ⟨HP1.out.bel, HP1.out.res, HP1.out.exp, HP1.out.row⟩
      have HERR : Hid (Cron.spErr s.data.toList = Cron.errF (Cron.parts s.data.toList) 5) := Lib.hid (by unfold Cron.spErr; rw [if_pos HWH.out])
      have HALL := Lib.hid (@Cron.sp_all s.data.toList)
      have HNON := Lib.hid (@Cron.sp_none s.data.toList)
      generalize Cron.parts s.data.toList = ps at *
      clear HWH HP1
      go_loopg [22] 5 (fun g t wx => ∃ i : Nat, i + g = 5 ∧ t = .int .i64 (i : Int) ∧ Cron.errF ps i = 0 ∧ SP w (Cron.partB ps i) (Cron.partS ps i) xs wx)
      case atStart => exact ⟨0, by omega, rfl, rfl, p1⟩
      case round =>
        obtain ⟨i, hig, rfl, hno, sp⟩ := hrel
        have HNO := Lib.hid hno
        have HS := Lib.hid sp
        clear hno sp
        cases gk with
        | zero =>
          obtain rfl : i = 5 := by omega
          have hre : Cron.spErr s.data.toList = 0 := by rw [HERR.out]; exact HNO.out
          have HRE := Lib.hid hre
          have HX := Lib.hid (HALL.out hre)
          clear hre
          obtain ⟨c0, c1, c2, c3, c4, c5, c6, c7, c8, c9⟩ := xobj_cells HS.out.res
          obtain ⟨d0, d1, d2, d3, d4, d5, d6, d7, d8, d9⟩ := xobj_cells HS.out.exp
          have f := fun j => row_free HS.out.res j
          go_wp2_with fail
          obtain ⟨hbF, hrF⟩ := HS.out.done (Cron.partB ps 5) (Cron.partS ps 5)
          change bodyPost _ _ _ _ _ (putX wr w.heap.size (Cron.partB ps 5) (Cron.partS ps 5))
          clear c0 c1 c2 c3 c4 c5 c6 c7 c8 c9 f d0 d1 d2 d3 d4 d5 d6 d7 d8 d9
          generalize putX wr w.heap.size (Cron.partB ps 5) (Cron.partS ps 5) = WF at *
          obtain ⟨c0, c1, c2, c3, c4, c5, c6, c7, c8, c9⟩ := xobj_cells hrF
          refine bodyPost_ret (v := .tuple #[xval (Cron.partB ps 5) (Cron.partS ps 5), .int .i64 0]) (by simp [results, Tryz.results84, go_sem, c0, c1, c2, c3, c4, c5, c6, c7, c8, c9, xval, xcells]) rfl ⟨by unfold xval; rw [HRE.out, HX.out]; rfl, hbF⟩
        | succ g =>
          have hi : i < 5 := by omega
          have hi5 : (i : Int) < 5 := by omega
          obtain ⟨x, hx⟩ : ∃ x, xs[i]? = some x := ⟨xs[i]'(by rw [HLEN.out]; exact hi), List.getElem?_eq_getElem _⟩
          have cx : wr.cell? ⟨w.heap.size + 1 + 1, i, none⟩ = some (.string x) := HS.out.piece i x hx
          have hpx : ps.getD i [] = x.data.toList := by
            rw [← HPT.out, List.getD, List.getElem?_map, hx]
            rfl
          have HPX := Lib.hid hpx
          have PA := parse_any i (by omega) x wr (HW.out.next HS.out.bel)
          unfold parseOf fval at PA
          rw [← hpx] at PA
          have HB := Lib.hid (Cron.partB_next ps i)
          have HSS := Lib.hid (Cron.partS_next ps i)
          have HEB := Lib.hid (fun n => @Cron.errF_bad ps i n HNO.out)
          have HEN : Hid (Fld.err i (ps.getD i []) = 0 → Cron.errF ps (i + 1) = 0) := Lib.hid (fun h => by unfold Cron.errF; rw [if_pos HNO.out]; exact h)
          clear hx hpx
          generalize Fld.allows i (ps.getD i []) = A at *
          generalize Fld.free i (ps.getD i []) = F at *
          generalize Fld.err i (ps.getD i []) = E at *
          have PA2 := Lib.hid PA
          clear PA
          go_wp2_with fail
          with_reducible refine PA2.out.mono ?_
          rintro e w4 ⟨rfl, hb4⟩
          have HS5 := Lib.hid ((HS.out.below hb4).below ((Below.refl _ _).alloc (Nat.le_refl _) (.cells #[.int .u64 (A : Int), .bool F] 99)))
          clear hb4 cx PA2
          by_cases hE : E = 0
          · subst hE
            have HE1 := Lib.hid (HEN.out rfl)
            clear HEN HEB
            obtain ⟨d0, d1⟩ := xobj_at HS5.out.exp i hi
            have f := fun j => row_free HS5.out.exp j
            have HSF := HS5.out.field A F i hi
            rw [HB.out, HSS.out] at HSF
            have HSN := Lib.hid HSF
            clear HSF
            go_wp2_with fail
            go_roundg g
            case measure => omega
            case rel => exact ⟨i + 1, by omega, by go_num, HE1.out, HSN.out⟩
          · have gE : ((E : Int) != 0) = true := by simp; omega
            have HE2 : Hid (Cron.spErr s.data.toList = E) := Lib.hid (by rw [HERR.out, show (5 : Nat) = i + 1 + (4 - i) by omega]; exact HEB.out E rfl hE (4 - i))
            have HX := Lib.hid (HNON.out (by rw [HE2.out]; exact hE))
            clear HEN HEB hE
            obtain ⟨c0, c1, c2, c3, c4, c5, c6, c7, c8, c9⟩ := xobj_cells HS5.out.res
            have f := fun j => row_free HS5.out.res j
            go_wp2_with fail
            obtain ⟨hbF, hrF⟩ := HS5.out.done (fun _ => 0) (fun _ => false)
            change bodyPost _ _ _ _ _ (putX _ w.heap.size (fun _ => 0) (fun _ => false))
            clear c0 c1 c2 c3 c4 c5 c6 c7 c8 c9 f
            generalize putX _ w.heap.size (fun _ => 0) (fun _ => false) = WF at *
            obtain ⟨c0, c1, c2, c3, c4, c5, c6, c7, c8, c9⟩ := xobj_cells hrF
            refine bodyPost_ret (v := .tuple #[xval (fun _ => 0) (fun _ => false), .int .i64 (E : Int)]) (by simp [results, Tryz.results84, go_sem, c0, c1, c2, c3, c4, c5, c6, c7, c8, c9, xval, xcells]) rfl ⟨by unfold xval; rw [HE2.out, HX.out], hbF⟩
    · have HE := HW0.out hq
      have HEq := Lib.hid HE
      have HN := Lib.hid (Cron.sp_none (l := s.data.toList) (by rw [HE]; decide))
      clear HE hq HW1 HW0 HP0 HPT HLEN
      obtain ⟨c0, c1, c2, c3, c4, c5, c6, c7, c8, c9⟩ := xobj_cells HP1.out.res
      have f := fun j => row_free HP1.out.res j
      go_wp2_with fail
      change bodyPost _ _ _ _ _ (putX w1 w.heap.size (fun _ => 0) (fun _ => false))
      obtain ⟨hbF, hrF⟩ := HP1.out.done (fun _ => 0) (fun _ => false)
      clear c0 c1 c2 c3 c4 c5 c6 c7 c8 c9 f
      generalize putX w1 w.heap.size (fun _ => 0) (fun _ => false) = WF at *
      obtain ⟨c0, c1, c2, c3, c4, c5, c6, c7, c8, c9⟩ := xobj_cells hrF
      refine bodyPost_ret (v := .tuple #[xval (fun _ => 0) (fun _ => false), .int .i64 70]) (by simp [results, Tryz.results84, go_sem, c0, c1, c2, c3, c4, c5, c6, c7, c8, c9, xval, xcells]) rfl ⟨by unfold xval; rw [HEq.out, HN.out]; rfl, hbF⟩
  · have g1 : ((C : Int) + 1 != 5) = true := by simp; omega
    have HE : Cron.spErr s.data.toList = 70 := by
      unfold Cron.spErr Cron.whole
      rw [if_neg]
      rw [← HPT.out, List.length_map, HLEN.out, decide_eq_false (by omega)]
      simp
    have HB : Cron.spB s.data.toList = fun _ => 0 := by funext k; unfold Cron.spB; rw [HE]; rfl
    have HS : Cron.spS s.data.toList = fun _ => false := by funext k; unfold Cron.spS; rw [HE]; rfl
    have HEq := Lib.hid HE
    have HBq := Lib.hid HB
    have HSq := Lib.hid HS
    clear HE HB HS hC HPT HLEN
    go_wp2_with fail
    change bodyPost _ _ _ _ _ (putX W0 w.heap.size (fun _ => 0) (fun _ => false))
    obtain ⟨hbF, hrF⟩ := HP0.out.done (fun _ => 0) (fun _ => false)
    clear c0 c1 c2 c3 c4 c5 c6 c7 c8 c9 f
    generalize putX W0 w.heap.size (fun _ => 0) (fun _ => false) = WF at *
    obtain ⟨c0, c1, c2, c3, c4, c5, c6, c7, c8, c9⟩ := xobj_cells hrF
    refine bodyPost_ret (v := .tuple #[xval (fun _ => 0) (fun _ => false), .int .i64 70]) (by simp [results, Tryz.results84, go_sem, c0, c1, c2, c3, c4, c5, c6, c7, c8, c9, xval, xcells]) rfl ⟨by rw [HEq.out, HBq.out, HSq.out]; rfl, hbF⟩
end Go.Proofs.YtpbnjibomdilhaaGreatDoor
