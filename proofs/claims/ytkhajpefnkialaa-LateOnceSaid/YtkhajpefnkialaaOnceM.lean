/- What LateOnce says of a verdict: the mathematics. -/
import Derived.Test.YtkhajpefnkialaaKnownL
namespace Go.Proofs.Ytkhajpefnkialaa.Job
open Go.RowKit

theorem rises_iff : ∀ (a : Int) (xs : List Int), risesB a xs = true ↔ (∀ x ∈ xs, a < x) ∧ xs.Pairwise (· < ·)
  | _, [] => by simp [risesB]
  | a, y :: r => by
    rw [risesB, Bool.and_eq_true, decide_eq_true_eq, rises_iff y r, List.pairwise_cons]
    constructor
    · rintro ⟨h1, h2, h3⟩
      refine ⟨fun x hx => ?_, h2, h3⟩
      rcases List.mem_cons.1 hx with rfl | hx
      · exact h1
      · have := h2 x hx; omega
    · rintro ⟨h1, h2, h3⟩
      exact ⟨h1 y (List.mem_cons_self ..), h2, h3⟩
theorem pair_lt {xs : List Int} (h : xs.Pairwise (· < ·)) {i j : Nat} (hi : i < j) (hj : j < xs.length) : xs[i]'(by omega) < xs[j] := List.pairwise_iff_getElem.1 h i j (by omega) hj hi
namespace Lt
variable {l : Lt}
theorem dues_len (h : l.May) : l.dues.length = l.frm + (l.ds.length + l.cs.length - l.upto) := by
  have := h.upto_le
  unfold dues
  rw [List.length_append, List.length_take, List.length_drop, l.all_len]
  omega
theorem skips_len (h : l.May) : l.skips.length = l.upto - l.frm := by
  have := h.upto_le
  unfold skips
  rw [List.length_drop, List.length_take, l.all_len]
  omega
theorem both_len (h : l.May) : l.dues.length + l.skips.length = l.ds.length + l.cs.length := by
  have := h.upto_le
  rw [dues_len h, skips_len h]; omega
theorem dues_room (h : l.May) : (l.dues.length : Int) ≤ l.room := by
  have h1 := h.upto_le
  have h2 := h.room
  have h3 : l.upto = l.frm + max l.cnt (((l.ds.length + l.cs.length : Nat) : Int) - l.room).toNat := rfl
  rw [dues_len h]
  omega
/-- how many of the moments ahead of a place are due -/
def idx (l : Lt) (at_ : Nat) : Nat := if at_ ≤ l.frm then at_ else if at_ ≤ l.upto then l.frm else at_ - (l.upto - l.frm)
theorem idx_zero : l.idx 0 = 0 := by unfold idx; rw [if_pos (Nat.zero_le _)]
theorem idx_le (h : l.May) (at_ : Nat) : l.idx at_ ≤ at_ := by
  have := h.upto_le
  unfold idx
  split
  · omega
  · split <;> omega
theorem idx_due (h : l.May) {at_ : Nat} (hn : at_ < l.ds.length + l.cs.length) (hd : at_ < l.frm ∨ l.upto ≤ at_) :
    ∃ h1 : l.idx at_ < l.dues.length, l.dues[l.idx at_] = l.all[at_]'(by rw [l.all_len]; exact hn) ∧ l.idx (at_ + 1) = l.idx at_ + 1 := by
  have hu := h.upto_le
  have hl := dues_len h
  have hal := l.all_len
  by_cases h0 : at_ < l.frm
  · have e : l.idx at_ = at_ := by unfold idx; rw [if_pos (by omega)]
    have e2 : l.idx (at_ + 1) = at_ + 1 := by unfold idx; rw [if_pos (by omega)]
    simp only [e, e2]
    refine ⟨by omega, ?_, trivial⟩
    unfold dues
    rw [List.getElem_append_left (by rw [List.length_take]; omega), List.getElem_take]
  · have h1 : l.upto ≤ at_ := by omega
    have e : l.idx at_ = at_ - (l.upto - l.frm) := by
      unfold idx
      split
      · omega
      · split <;> omega
    have e2 : l.idx (at_ + 1) = at_ - (l.upto - l.frm) + 1 := by
      unfold idx
      split
      · omega
      · split <;> omega
    simp only [e, e2]
    refine ⟨by omega, ?_, trivial⟩
    unfold dues
    rw [List.getElem_append_right (by rw [List.length_take]; omega), List.getElem_drop]
    congr 1
    rw [List.length_take]
    omega
theorem idx_skip (h : l.May) {at_ : Nat} (hn : at_ < l.ds.length + l.cs.length) (h1 : l.frm ≤ at_) (h2 : at_ < l.upto) :
    l.idx at_ = l.frm ∧ (∃ hk : at_ - l.idx at_ < l.skips.length, l.skips[at_ - l.idx at_] = l.all[at_]'(by rw [l.all_len]; exact hn)) ∧ l.idx (at_ + 1) = l.idx at_ ∧
      (∀ hi : l.idx at_ < l.dues.length, l.dues[l.idx at_] ≠ l.all[at_]'(by rw [l.all_len]; exact hn)) := by
  have hu := h.upto_le
  have hl := dues_len h
  have hs := skips_len h
  have hal := l.all_len
  have e : l.idx at_ = l.frm := by
    unfold idx
    split
    · omega
    · split <;> omega
  have e2 : l.idx (at_ + 1) = l.frm := by
    unfold idx
    split
    · omega
    · split <;> omega
  simp only [e, e2]
  refine ⟨trivial, ⟨by omega, ?_⟩, trivial, fun hi => ?_⟩
  · unfold skips
    rw [List.getElem_drop, List.getElem_take]
    congr 1
    omega
  · have hp := ((rises_iff _ _).1 h.rise).2
    have he : l.dues[l.frm] = l.all[l.upto]'(by omega) := by
      rw [List.getElem_of_eq (show l.dues = l.all.take l.frm ++ l.all.drop l.upto from rfl)]
      rw [List.getElem_append_right (by rw [List.length_take]; omega), List.getElem_drop]
      congr 1
      rw [List.length_take]
      omega
    rw [he]
    have := pair_lt hp h2 (by omega)
    omega
/-- the last one that comes, and is not too late, is due where there is room -/
theorem last_due (h : l.May) (hc : 0 < l.cs.length) (ht : l.now - l.all[l.ds.length + l.cs.length - 1]'(by rw [l.all_len]; omega) ≤ l.gra) (hr : (l.ds.length : Int) < l.room) :
    ∃ hd : 0 < l.dues.length, l.dues[l.dues.length - 1] = l.all[l.ds.length + l.cs.length - 1]'(by rw [l.all_len]; omega) := by
  have hu := h.upto_le
  have hl := dues_len h
  have hal := l.all_len
  have hlt : l.upto < l.ds.length + l.cs.length := by
    have h3 : l.upto = l.frm + max l.cnt (((l.ds.length + l.cs.length : Nat) : Int) - l.room).toNat := rfl
    have hcnt : l.frm + l.cnt < l.ds.length + l.cs.length ∧ l.frm ≤ l.ds.length := by
      have hlat : l.pol = 1 → lates l.late l.cs < l.cs.length := fun _ => by
        rcases Nat.lt_or_ge (lates l.late l.cs) l.cs.length with h1 | h1
        · exact h1
        · have h2 := lates_yes l.late l.cs (l.cs.length - 1) (by omega) (by omega)
          have he : l.all[l.ds.length + l.cs.length - 1]'(by rw [l.all_len]; omega) = l.cs[l.cs.length - 1] := by
            unfold all
            rw [List.getElem_append_right (by omega)]
            congr 1
            omega
          rw [he] at ht
          unfold late at h2
          rw [decide_eq_true_eq] at h2
          omega
      have h4 := h.pol
      unfold frm cnt
      by_cases p1 : l.pol = 1
      · have := hlat p1
        rw [if_neg (by omega), if_pos p1]
        omega
      · by_cases p3 : l.pol = 3
        · rw [if_pos p3, if_neg p1, if_pos p3]; omega
        · rw [if_neg p3, if_neg p1, if_neg p3]; omega
    have h5 := h.room
    have h6 : l.pol = 3 → l.frm = 0 := fun p => by unfold frm; rw [if_pos p]
    have h7 : l.pol ≠ 3 → l.frm = l.ds.length := fun p => by unfold frm; rw [if_neg p]
    by_cases p3 : l.pol = 3
    · have := h6 p3; omega
    · have := h7 p3; omega
  refine ⟨by omega, ?_⟩
  unfold dues
  rw [List.getElem_append_right (by rw [List.length_append, List.length_take, List.length_drop]; omega), List.getElem_drop]
  congr 1
  rw [List.length_append, List.length_take, List.length_drop]
  omega
theorem all_due (h : l.May) (p : l.pol = 2) (hn : ((l.ds.length + l.cs.length : Nat) : Int) ≤ l.room) : l.skips.length = 0 := by
  have h3 : l.upto = l.frm + max l.cnt (((l.ds.length + l.cs.length : Nat) : Int) - l.room).toNat := rfl
  have hc : l.cnt = 0 := by unfold cnt; rw [if_neg (by omega), if_neg (by omega)]
  rw [skips_len h]
  omega
theorem one_due (h : l.May) (p : l.pol = 3) : l.dues.length ≤ 1 := by
  have h3 : l.upto = l.frm + max l.cnt (((l.ds.length + l.cs.length : Nat) : Int) - l.room).toNat := rfl
  have hf : l.frm = 0 := by unfold frm; rw [if_pos p]
  have hc : l.cnt = l.ds.length + l.cs.length - 1 := by unfold cnt; rw [if_neg (by omega), if_pos p]
  rw [dues_len h]
  omega
/-- judged again, with nothing that comes -/
def again (l : Lt) (a : Option Addr) (c : Nat) : Lt := { l with da := a, dc := c, ds := l.dues, ca := none, cc := 0, cs := [] }
theorem dues_rise (h : l.May) : risesB (-1) l.dues = true := by
  obtain ⟨h1, h2⟩ := (rises_iff _ _).1 h.rise
  have hs : List.Sublist l.dues l.all := by
    unfold dues
    have hu := h.upto_le
    rw [show l.all.drop l.upto = (l.all.drop l.frm).drop (l.upto - l.frm) by rw [List.drop_drop]; congr 1; omega]
    conv => rhs; rw [← List.take_append_drop l.frm l.all]
    exact List.Sublist.append (List.Sublist.refl _) (List.drop_sublist _ _)
  exact (rises_iff _ _).2 ⟨fun x hx => h1 x (hs.subset hx), h2.sublist hs⟩
theorem again_may (h : l.May) (a : Option Addr) (c : Nat) : (l.again a c).May :=
  ⟨h.pol, h.gra, h.now, ⟨dues_room h, h.room.2⟩, Nat.zero_le _, by show risesB (-1) (l.dues ++ []) = true; rw [List.append_nil]; exact dues_rise h, .inl rfl⟩
theorem again_same (h : l.May) (a : Option Addr) (c : Nat) : (l.again a c).dues = l.dues ∧ (l.again a c).skips = [] := by
  have hr := dues_room h
  have h3 : (l.again a c).upto = (l.again a c).frm + max (l.again a c).cnt (((l.dues.length + 0 : Nat) : Int) - l.room).toNat := rfl
  have hc : (l.again a c).cnt = 0 := by
    show (if l.pol = 1 then lates (l.again a c).late [] else if l.pol = 3 then l.dues.length + 0 - 1 else 0) = 0
    split
    · rfl
    · split
      · rename_i p; have := one_due h p; omega
      · rfl
  have hu : (l.again a c).upto = (l.again a c).frm := by rw [h3, hc]; omega
  refine ⟨?_, ?_⟩
  · show (l.again a c).all.take (l.again a c).frm ++ (l.again a c).all.drop (l.again a c).upto = l.dues
    rw [hu, List.take_append_drop]
    show l.dues ++ [] = l.dues
    rw [List.append_nil]
  · show ((l.again a c).all.take (l.again a c).upto).drop (l.again a c).frm = []
    rw [hu]
    exact List.drop_eq_nil_of_le (by rw [List.length_take]; omega)
end Lt
end Go.Proofs.Ytkhajpefnkialaa.Job
