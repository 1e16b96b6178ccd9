/- cron.spelled, by its contract. -/
import Derived.Test.YtoamhjcnajljlaaGreatDoorParts
import Derived.Test.YtoamhjcnajljlaaGreatDoorParse
import Derived.Test.YtoamhjcnajljlaaGreatDoorAskX
namespace Go.Proofs.YtoamhjcnajljlaaGreatDoor
open Go.RowKit

/-! whether a text is one of a row's -/
set_option maxRecDepth 100000 in
set_option maxHeartbeats 1000000 in
theorem indexS_any (g : Nat) (xs : List ByteArray) (t : ByteArray) (hn : xs.length ≤ 1000000) (w : World) (hc : ∀ (i : Nat) x, xs[i]? = some x → w.cell? ⟨g, i, none⟩ = some (.string x)) (C : Nat) :
    Calls Tryz.prog 61 #[.slice (some ⟨g, 0, none⟩) xs.length C, .string t] w fun e w' => (∃ r : Int, e = .returned (.int .i64 r) ∧ (0 ≤ r ↔ t.data.toList ∈ xs.map (·.data.toList))) ∧ Below w.heap.size w w' := by
  have HC := Lib.hid hc
  clear hc
  go_enter Tryz.func61, Tryz.ntmps61
  go_wp2_with fail
  go_loopg [8] xs.length (fun g v wx => wx = w ∧ ∃ i : Nat, i + g = xs.length ∧ v = .int .i64 i ∧ t.data.toList ∉ (xs.map (·.data.toList)).take i)
  case atStart => exact ⟨rfl, 0, by omega, rfl, by simp⟩
  case round =>
    obtain ⟨rfl, i, hig, rfl, hno⟩ := hrel
    have HN := Lib.hid hno
    clear hno
    cases gk with
    | zero =>
      obtain rfl : i = xs.length := by omega
      go_wp2_with fail
      go_ret
      exact ⟨⟨-1, rfl, ⟨fun h => absurd h (by omega), fun h => absurd h (by have := HN.out; rw [← List.length_map (f := fun x : ByteArray => x.data.toList), List.take_length] at this; exact this)⟩⟩, Below.refl _ _⟩
    | succ k =>
      have hi : i < xs.length := by omega
      have hlt : (i : Int) < (xs.length : Int) := by omega
      obtain ⟨x, hx⟩ : ∃ x, xs[i]? = some x := ⟨xs[i], List.getElem?_eq_getElem hi⟩
      have cx := HC.out i x hx
      have HX := Lib.hid hx
      clear hx
      have hxm : (xs.map (·.data.toList))[i]? = some x.data.toList := by rw [List.getElem?_map, HX.out]; rfl
      have HXM := Lib.hid hxm
      clear hxm
      by_cases e : t.data.toList = x.data.toList
      · have he : (t.toList == x.toList) = true := by rw [Lib.toList_data, Lib.toList_data, e]; exact beq_self_eq_true _
        have HE := Lib.hid e
        clear e
        go_wp2_with fail
        go_ret
        exact ⟨⟨i, rfl, ⟨fun _ => by rw [HE.out]; exact List.mem_of_getElem? HXM.out, fun _ => by omega⟩⟩, Below.refl _ _⟩
      · have he : (t.toList == x.toList) = false := by rw [Lib.toList_data, Lib.toList_data]; exact beq_eq_false_iff_ne.2 e
        have HE := Lib.hid e
        clear e
        go_wp2_with fail
        go_roundg k
        case measure => omega
        case rel => exact ⟨rfl, i + 1, by omega, by go_num, by
          obtain ⟨hi', hx'⟩ := List.getElem?_eq_some_iff.1 HXM.out
          rw [List.take_succ_eq_append_getElem hi', hx']
          simp only [List.mem_append, List.mem_singleton, not_or]
          exact ⟨HN.out, HE.out⟩⟩

set_option maxRecDepth 100000 in
set_option maxHeartbeats 1000000 in
theorem contains_any (g : Nat) (xs : List ByteArray) (t : ByteArray) (hn : xs.length ≤ 1000000) (w : World) (hc : ∀ (i : Nat) x, xs[i]? = some x → w.cell? ⟨g, i, none⟩ = some (.string x)) (C : Nat) :
    Calls Tryz.prog 38 #[.slice (some ⟨g, 0, none⟩) xs.length C, .string t] w fun e w' => e = .returned (.bool ((xs.map (·.data.toList)).contains t.data.toList)) ∧ Below w.heap.size w w' := by
  have HI := Lib.hid (indexS_any g xs t hn w hc C)
  clear hc
  go_enter Tryz.func38, Tryz.ntmps38
  go_wp2_with fail
  with_reducible refine HI.out.mono ?_
  rintro e w1 ⟨⟨r, rfl, hr⟩, hb⟩
  have HR : Hid (decide (0 ≤ r) = (xs.map (·.data.toList)).contains t.data.toList) := Lib.hid (by
    rw [Bool.eq_iff_iff, decide_eq_true_eq, hr, List.contains_iff_mem])
  clear hr HI
  go_wp2_with fail
  go_ret
  exact ⟨by rw [← HR.out]; rfl, hb⟩
end Go.Proofs.YtoamhjcnajljlaaGreatDoor
