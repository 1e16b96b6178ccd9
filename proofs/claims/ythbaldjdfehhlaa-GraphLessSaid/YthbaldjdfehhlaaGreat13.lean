/- Is a row more than a statement looks at? -/
import Derived.Test.YthbaldjdfehhlaaKnown13
import Derived.Test.YthbaldjdfehhlaaRefUsers13
namespace Go.Proofs.Ythbaldjdfehhlaa
open Go.RowKit Gr

/-- more than a statement looks at -/
def greatOf (l : List NodeV) : Bool := (l.any fun v => decide (12 < v.deps.length)) || decide (70 < l.length)
theorem great_no {l : List NodeV} (h : greatOf l = false) : l.length ≤ 70 ∧ ∀ v ∈ l, v.deps.length ≤ 12 := by
  simp only [greatOf, Bool.or_eq_false_iff, List.any_eq_false, decide_eq_false_iff_not, decide_eq_true_eq] at h
  exact ⟨by omega, fun v hv => by have := h.1 v hv; omega⟩

set_option maxRecDepth 100000 in
set_option maxHeartbeats 1000000 in
theorem great_any {w : World} {a : Option Addr} {l : List NodeV} {c : Nat} (hN : NodesF w a l) (hl : l.length ≤ 9223372036854775807) :
    Calls Try.prog 7 #[.slice a l.length c] w fun e w' => e = .returned (.bool (greatOf l)) ∧ w' = w := by
  obtain ⟨⟨g, q, ha, hc⟩, hfit⟩ := hN
  have HA := Lib.hid ha
  have HC := Lib.hid hc
  have HE := Lib.hid hfit
  clear ha hc hfit
  obtain ⟨r, hr⟩ : ∃ r, r = greatOf l := ⟨_, rfl⟩
  rw [← hr]
  have HR := Lib.hid hr
  clear hr
  go_enter Try.func7, Try.ntmps7
  go_wp2
  go_loopw [3] (fun v wr => wr = w ∧ ∃ i : Nat, v = .int .i64 (i : Int) ∧ i ≤ l.length ∧ greatOf l = ((l.drop i).any (fun v => decide (12 < v.deps.length)) || decide (70 < l.length))) (fun v _ => l.length - (intOf v).toNat)
  case atStart => exact ⟨rfl, 0, rfl, Nat.zero_le _, rfl⟩
  case round =>
    obtain ⟨rfl, i, rfl, hi, hall⟩ := hrel
    have HALL := Lib.hid hall
    clear hall
    by_cases hlt : i < l.length
    · obtain ⟨hg, hc1, hc2⟩ := HC.out i hlt
      have ea := HA.out (by intro e; subst e; simp at hlt)
      cases ea
      have hd : decide ((i : Int) < (l.length : Int)) = true := by simp; omega
      have hdr : l.drop i = l[i] :: l.drop (i + 1) := List.drop_eq_getElem_cons hlt
      have hf := HE.out l[i] (List.getElem_mem hlt)
      have hfb : l[i].deps.length ≤ 9223372036854775807 := Nat.le_trans hf.cap (Nat.le_trans hf.big (by unfold maxLen; omega))
      obtain ⟨x, hx⟩ : ∃ x, l[i] = x := ⟨_, rfl⟩
      rw [hx] at hc1 hc2 hdr hfb
      have HX := Lib.hid hdr
      clear hx hdr hf
      by_cases he : 12 < x.deps.length
      · have hd2 : decide ((12 : Int) < (x.deps.length : Int)) = true := by simp; omega
        go_wp2
        go_ret
        refine ⟨?_, by first | rfl | trivial⟩
        rw [HR.out, HALL.out, HX.out]
        simp [he]
      · have hd2 : decide ((12 : Int) < (x.deps.length : Int)) = false := by simp; omega
        go_wp2
        go_roundw
        case rel => exact ⟨by first | rfl | trivial, i + 1, by go_num, by omega, by rw [HALL.out, HX.out]; simp [he]⟩
        case measure => simp [intOf]; omega
    · have hd : decide ((i : Int) < (l.length : Int)) = false := by simp; omega
      obtain ⟨b, hb⟩ : ∃ b, decide ((70 : Int) < (l.length : Int)) = b := ⟨_, rfl⟩
      have hb2 : decide (70 < l.length) = b := by
        rw [← hb]
        simp
        omega
      have HB2 := Lib.hid hb2
      clear hb2
      go_wp2
      go_ret
      refine ⟨?_, by first | rfl | trivial⟩
      rw [HR.out, HALL.out, List.drop_eq_nil_of_le (by omega), HB2.out]
      rfl

end Go.Proofs.Ythbaldjdfehhlaa
