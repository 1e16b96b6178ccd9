/- ringerref06.number of one or two digits, by its contract. -/
import Derived.Test.YtgcineaodfomeaaDoorRefSplit
namespace Go.Proofs.YtgcineaodfomeaaDoor
open Go.RowKit

namespace Fld
def dig1 (c : UInt8) : Nat := c.toNat - 48
def dval (l : List UInt8) : Nat := l.foldl (fun a c => 10 * a + dig1 c) 0
def digits (l : List UInt8) : Prop := (l.length = 1 ∨ l.length = 2) ∧ ∀ c ∈ l, 48 ≤ c.toNat ∧ c.toNat ≤ 57
instance (l : List UInt8) : Decidable (digits l) := by unfold digits; exact inferInstance
theorem dval_next (l : List UInt8) (i : Nat) (h : i < l.length) : dval (l.take (i + 1)) = 10 * dval (l.take i) + dig1 l[i] := by
  unfold dval
  rw [List.take_succ_eq_append_getElem h, List.foldl_append]
  rfl
theorem dval_lt {l : List UInt8} (h : digits l) : ∀ i, i ≤ l.length → dval (l.take i) ≤ 99 := by
  obtain ⟨hl, hd⟩ := h
  match l, hl with
  | [a], _ =>
    have h0 := hd a (by simp)
    intro i hi
    have : i = 0 ∨ i = 1 := by simp at hi; omega
    rcases this with rfl | rfl <;> simp [dval, dig1] <;> omega
  | [a, b], _ =>
    have h0 := hd a (by simp)
    have h1 := hd b (by simp)
    intro i hi
    have : i = 0 ∨ i = 1 ∨ i = 2 := by simp at hi; omega
    rcases this with rfl | rfl | rfl <;> simp [dval, dig1] <;> omega
end Fld

set_option maxRecDepth 100000 in
set_option maxHeartbeats 2000000 in
theorem rnum_any (k : Int) (l : List UInt8) (h : Fld.digits l) (w : World) : Calls Tryd.prog 58 #[.int .i64 k, .string (ba l)] w fun e w' => e = .returned (.int .i64 (Fld.dval l : Int)) ∧ w' = w := by
  have hsz : (ba l).size = l.length := ba_size l
  have hlen := h.1
  have HD := Lib.hid h
  clear h
  go_enter Tryd.func58, Tryd.ntmps58
  rcases hlen with h1 | h2
  · go_wp2_with fail
    go_loopg [5, 6, 7] l.length (fun g td tn ti wx => wx = w ∧ ∃ i : Nat, i + g = l.length ∧ td = .bool true ∧ tn = .int .i64 (Fld.dval (l.take i) : Int) ∧ ti = .int .i64 (i : Int))
    case atStart => exact ⟨rfl, 0, by omega, rfl, rfl, rfl⟩
    case round =>
      obtain ⟨rfl, i, hig, rfl, rfl, rfl⟩ := hrel
      cases gk with
      | zero =>
        obtain rfl : i = l.length := by omega
        have hlt : ¬ ((l.length : Int) < (l.length : Int)) := by omega
        go_wp2_with fail
        go_ret
        exact ⟨by rw [List.take_of_length_le (l := l) (by omega)]; rfl, rfl⟩
      | succ g =>
        have hi : i < l.length := by omega
        have hidx := index_text l i hi
        have hlt : (i : Int) < (l.length : Int) := by omega
        have hc := HD.out.2 l[i] (List.getElem_mem hi)
        have hv := Fld.dval_lt HD.out i (by omega)
        have HN := Lib.hid (Fld.dval_next l i hi)
        have hdg : Fld.dig1 l[i] = l[i].toNat - 48 := rfl
        generalize Fld.dval (l.take i) = V at *
        generalize Fld.dig1 l[i] = D at *
        generalize l[i].toNat = B at *
        have q0 : decide ((48 : Int) ≤ (B : Int)) = true := by simp; omega
        have q1 : decide ((B : Int) ≤ 57) = true := by simp; omega
        have HX : Hid (10 * (V : Int) + (B : Int) - 48 = (Fld.dval (l.take (i + 1)) : Int)) := Lib.hid (by rw [HN.out]; omega)
        clear HN hdg
        go_wp2_with fail
        go_roundg g
        case measure => omega
        case rel => exact ⟨rfl, i + 1, by omega, by first | rfl | simp, by rw [HX.out], by go_num⟩
  · go_wp2_with fail
    go_loopg [5, 6, 7] l.length (fun g td tn ti wx => wx = w ∧ ∃ i : Nat, i + g = l.length ∧ td = .bool true ∧ tn = .int .i64 (Fld.dval (l.take i) : Int) ∧ ti = .int .i64 (i : Int))
    case atStart => exact ⟨rfl, 0, by omega, rfl, rfl, rfl⟩
    case round =>
      obtain ⟨rfl, i, hig, rfl, rfl, rfl⟩ := hrel
      cases gk with
      | zero =>
        obtain rfl : i = l.length := by omega
        have hlt : ¬ ((l.length : Int) < (l.length : Int)) := by omega
        go_wp2_with fail
        go_ret
        exact ⟨by rw [List.take_of_length_le (l := l) (by omega)]; rfl, rfl⟩
      | succ g =>
        have hi : i < l.length := by omega
        have hidx := index_text l i hi
        have hlt : (i : Int) < (l.length : Int) := by omega
        have hc := HD.out.2 l[i] (List.getElem_mem hi)
        have hv := Fld.dval_lt HD.out i (by omega)
        have HN := Lib.hid (Fld.dval_next l i hi)
        have hdg : Fld.dig1 l[i] = l[i].toNat - 48 := rfl
        generalize Fld.dval (l.take i) = V at *
        generalize Fld.dig1 l[i] = D at *
        generalize l[i].toNat = B at *
        have q0 : decide ((48 : Int) ≤ (B : Int)) = true := by simp; omega
        have q1 : decide ((B : Int) ≤ 57) = true := by simp; omega
        have HX : Hid (10 * (V : Int) + (B : Int) - 48 = (Fld.dval (l.take (i + 1)) : Int)) := Lib.hid (by rw [HN.out]; omega)
        clear HN hdg
        go_wp2_with fail
        go_roundg g
        case measure => omega
        case rel => exact ⟨rfl, i + 1, by omega, by first | rfl | simp, by rw [HX.out], by go_num⟩
end Go.Proofs.YtgcineaodfomeaaDoor
