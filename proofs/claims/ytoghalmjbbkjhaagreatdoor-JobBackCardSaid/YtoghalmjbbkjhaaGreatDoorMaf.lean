/- cron.May and the reference's, by their contracts. cron.spelled, by its contract. -/
import Derived.Test.YtoghalmjbbkjhaaGreatDoorMac
import Derived.Test.YtoghalmjbbkjhaaGreatDoorMae
import Derived.Deep.LoopGhost
import Derived.Test.YtoghalmjbbkjhaaGreatDoorMad
import Derived.Test.YtoghalmjbbkjhaaGreatDoorParse
namespace Go.Proofs.YtoghalmjbbkjhaaGreatDoor
open Go.RowKit

set_option maxRecDepth 100000 in
set_option maxHeartbeats 2000000 in
theorem mayX_any (b : Nat → Nat) (s : Nat → Bool) (hb : ∀ k, k < 5 → b k < 2 ^ 64) (w : World) (hw : TabsOn w) : Calls Tryz.prog 63 #[xval b s] w fun e w' => e = .returned (.bool (Cron.may b)) ∧ Below w.heap.size w w' := by
  have o := OwnX.new w b s
  obtain ⟨c0, c1, c2, c3, c4, c5, c6, c7, c8, c9⟩ := xobj_cells o.row
  have O := Lib.hid o
  have HW := Lib.hid hw
  have HM := fun (i : Nat) (hi : i < 5) W hW => may_any (i : Int) (b i) (hb i hi) (s i) W hW
  unfold fval at HM
  have HM := Lib.hid HM
  have HI := Lib.hid (index_expr b s)
  have HT := Lib.hid (@Cron.may_iff b)
  have HF := Lib.hid (@Cron.may_not b)
  generalize Cron.may b = R at *
  clear o hw hb
  unfold xval xcells
  unfold xcells at HI
  go_enter Tryz.func63, Tryz.ntmps63
  go_wp2_with fail
  clear c0 c1 c2 c3 c4 c5 c6 c7 c8 c9
  have bel := O.out.bel
  clear O
  generalize (#[.int .u64 ((b 0 : Nat) : Int), .bool (s 0), .int .u64 ((b 1 : Nat) : Int), .bool (s 1), .int .u64 ((b 2 : Nat) : Int), .bool (s 2), .int .u64 ((b 3 : Nat) : Int), .bool (s 3), .int .u64 ((b 4 : Nat) : Int), .bool (s 4)] : Array Value) = A at *
  go_loopg [6] 5 (fun g t wx => Below w.heap.size w wx ∧ ∃ i : Nat, i + g = 5 ∧ t = .int .i64 i ∧ ∀ j : Nat, j < i → Fld.may (j : Int) (b j) = true)
  case atStart => exact ⟨bel, 0, by omega, rfl, fun j hj => absurd hj (by omega)⟩
  case round =>
    obtain ⟨hbx, i, hig, rfl, hno⟩ := hrel
    have HN := Lib.hid hno
    clear hno
    cases gk with
    | zero =>
      obtain rfl : i = 5 := by omega
      have hR : R = true := HT.out.2 fun k hk => HN.out k hk
      subst hR
      go_wp2_with fail
      go_ret
      exact ⟨rfl, hbx⟩
    | succ g =>
      have hi : i < 5 := by omega
      have hi5 : (i : Int) < 5 := by omega
      have hix : ∀ W, (Instr.index 43 (.agg A) (.int .i64 (i : Int))).run Tryz.prog W = .ok (.agg #[.int .u64 ((b i : Nat) : Int), .bool (s i)]) W := HI.out i hi
      go_wp2_with fail
      have HW2 := Lib.hid (HW.out.next ((hbx.alloc hbx.size (.cells #[Value.int .u64 ((b i : Nat) : Int), Value.bool (s i)] 41))))
      with_reducible refine (HM.out i hi _ HW2.out).mono ?_
      rintro e w1 ⟨rfl, hb1⟩
      have hb2 := (hbx.alloc hbx.size (.cells #[Value.int .u64 ((b i : Nat) : Int), Value.bool (s i)] 41)).trans (hb1.mono (hbx.alloc hbx.size _).size)
      clear hix hbx hb1
      cases hfd : Fld.may (i : Int) (b i)
      · have hR : R = false := HF.out i hi hfd
        subst hR
        clear hfd
        go_wp2_with fail
        go_ret
        exact ⟨rfl, hb2⟩
      · have HD := Lib.hid hfd
        clear hfd
        go_wp2_with fail
        go_roundg g
        case measure => omega
        case rel => exact ⟨hb2, i + 1, by omega, by go_num, fun j hj => by
          by_cases e : j = i
          · rw [e]; exact HD.out
          · exact HN.out j (by omega)⟩

set_option maxRecDepth 100000 in
set_option maxHeartbeats 2000000 in
theorem refMayX_any (b : Nat → Nat) (s : Nat → Bool) (hb : ∀ k, k < 5 → b k < 2 ^ 64) (w : World) : Calls Tryz.prog 69 #[xval b s] w fun e w' => e = .returned (.bool (Cron.may b)) ∧ Below w.heap.size w w' := by
  have o := OwnX.new w b s
  have O := Lib.hid o
  have HM := Lib.hid (fun (i : Nat) (hi : i < 5) W => refMay_any (i : Int) (b i) (hb i hi) (s i) W)
  have HT := Lib.hid (@Cron.may_iff b)
  have HF := Lib.hid (@Cron.may_not b)
  generalize Cron.may b = R at *
  clear o hb
  unfold xval xcells
  go_enter Tryz.func69, Tryz.ntmps69
  go_wp2_with fail
  go_loopg [3] 5 (fun g t wx => OwnX w w.heap.size b s wx ∧ ∃ i : Nat, i + g = 5 ∧ t = .int .i64 i ∧ ∀ j : Nat, j < i → Fld.may (j : Int) (b j) = true)
  case atStart => exact ⟨O.out, 0, by omega, rfl, fun j hj => absurd hj (by omega)⟩
  case round =>
    obtain ⟨ow, i, hig, rfl, hno⟩ := hrel
    have HN := Lib.hid hno
    have OW := Lib.hid ow
    clear hno ow
    cases gk with
    | zero =>
      obtain rfl : i = 5 := by omega
      have hR : R = true := HT.out.2 fun k hk => HN.out k hk
      subst hR
      go_wp2_with fail
      go_ret
      exact ⟨rfl, OW.out.bel⟩
    | succ g =>
      have hi : i < 5 := by omega
      have hi5 : (i : Int) < 5 := by omega
      obtain ⟨d0, d1⟩ := xobj_at OW.out.row i hi
      go_wp2_with fail
      with_reducible refine (HM.out i hi _).mono ?_
      rintro e w1 ⟨rfl, hb1⟩
      have OW2 := Lib.hid (OW.out.below hb1)
      clear d0 d1 hb1
      cases hfd : Fld.may (i : Int) (b i)
      · have hR : R = false := HF.out i hi hfd
        subst hR
        clear hfd
        go_wp2_with fail
        go_ret
        exact ⟨rfl, OW2.out.bel⟩
      · have HD := Lib.hid hfd
        clear hfd
        go_wp2_with fail
        go_roundg g
        case measure => omega
        case rel => exact ⟨OW2.out, i + 1, by omega, by go_num, fun j hj => by
          by_cases e : j = i
          · rw [e]; exact HD.out
          · exact HN.out j (by omega)⟩
end Go.Proofs.YtoghalmjbbkjhaaGreatDoor

namespace Go.Proofs.YtoghalmjbbkjhaaGreatDoor
open Go.RowKit

/-! whether a text is one of a row's -/
set_option maxRecDepth 100000 in
set_option maxHeartbeats 1000000 in
theorem indexS_any (g : Nat) (xs : List ByteArray) (t : ByteArray) (hn : xs.length ≤ 1000000) (w : World) (hc : ∀ (i : Nat) x, xs[i]? = some x → w.cell? ⟨g, i, none⟩ = some (.string x)) (C : Nat) :
    Calls Tryz.prog 76 #[.slice (some ⟨g, 0, none⟩) xs.length C, .string t] w fun e w' => (∃ r : Int, e = .returned (.int .i64 r) ∧ (0 ≤ r ↔ t.data.toList ∈ xs.map (·.data.toList))) ∧ Below w.heap.size w w' := by
  have HC := Lib.hid hc
  clear hc
  go_enter Tryz.func76, Tryz.ntmps76
  go_wp2_with fail
  go_loopg [8] xs.length (fun g v wx => wx = w ∧ ∃ i : Nat, i + g = xs.length ∧ v = .int .i64 i ∧ t.data.toList ∉ (xs.map (·.data.toList)).take i)
  case atStart => exact ⟨rfl, 0, by omega, rfl, by simp⟩
  case round =>
    obtain ⟨rfl, i, hig, rfl, hno⟩ := hrel
    have HN := Lib.hid hno
    clear hno
    cases gk with
    | zero =>
      obtain rfl : i = xs.length := by omega
      go_wp2_with fail
      go_ret
      exact ⟨⟨-1, rfl, ⟨fun h => absurd h (by omega), fun h => absurd h (by have := HN.out; rw [← List.length_map (f := fun x : ByteArray => x.data.toList), List.take_length] at this; exact this)⟩⟩, Below.refl _ _⟩
    | succ k =>
      have hi : i < xs.length := by omega
      have hlt : (i : Int) < (xs.length : Int) := by omega
      obtain ⟨x, hx⟩ : ∃ x, xs[i]? = some x := ⟨xs[i], List.getElem?_eq_getElem hi⟩
      have cx := HC.out i x hx
      have HX := Lib.hid hx
      clear hx
      have hxm : (xs.map (·.data.toList))[i]? = some x.data.toList := by rw [List.getElem?_map, HX.out]; rfl
      have HXM := Lib.hid hxm
      clear hxm
      by_cases e : t.data.toList = x.data.toList
      · have he : (t.toList == x.toList) = true := by rw [Lib.toList_data, Lib.toList_data, e]; exact beq_self_eq_true _
        have HE := Lib.hid e
        clear e
        go_wp2_with fail
        go_ret
        exact ⟨⟨i, rfl, ⟨fun _ => by rw [HE.out]; exact List.mem_of_getElem? HXM.out, fun _ => by omega⟩⟩, Below.refl _ _⟩
      · have he : (t.toList == x.toList) = false := by rw [Lib.toList_data, Lib.toList_data]; exact beq_eq_false_iff_ne.2 e
        have HE := Lib.hid e
        clear e
        go_wp2_with fail
        go_roundg k
        case measure => omega
        case rel => exact ⟨rfl, i + 1, by omega, by go_num, by
          obtain ⟨hi', hx'⟩ := List.getElem?_eq_some_iff.1 HXM.out
          rw [List.take_succ_eq_append_getElem hi', hx']
          simp only [List.mem_append, List.mem_singleton, not_or]
          exact ⟨HN.out, HE.out⟩⟩

set_option maxRecDepth 100000 in
set_option maxHeartbeats 1000000 in
theorem contains_any (g : Nat) (xs : List ByteArray) (t : ByteArray) (hn : xs.length ≤ 1000000) (w : World) (hc : ∀ (i : Nat) x, xs[i]? = some x → w.cell? ⟨g, i, none⟩ = some (.string x)) (C : Nat) :
    Calls Tryz.prog 59 #[.slice (some ⟨g, 0, none⟩) xs.length C, .string t] w fun e w' => e = .returned (.bool ((xs.map (·.data.toList)).contains t.data.toList)) ∧ Below w.heap.size w w' := by
  have HI := Lib.hid (indexS_any g xs t hn w hc C)
  clear hc
  go_enter Tryz.func59, Tryz.ntmps59
  go_wp2_with fail
  with_reducible refine HI.out.mono ?_
  rintro e w1 ⟨⟨r, rfl, hr⟩, hb⟩
  have HR : Hid (decide (0 ≤ r) = (xs.map (·.data.toList)).contains t.data.toList) := Lib.hid (by
    rw [Bool.eq_iff_iff, decide_eq_true_eq, hr, List.contains_iff_mem])
  clear hr HI
  go_wp2_with fail
  go_ret
  exact ⟨by rw [← HR.out]; rfl, hb⟩
end Go.Proofs.YtoghalmjbbkjhaaGreatDoor
