/- 'same', by its contract: two rows of records, one by one. -/
import Derived.Test.YtlebeegcdadgiaaScan
import Derived.BigQuiet
import Derived.Deep.Draws
namespace Go.Proofs.Ytlebeegcdadgiaa
open Go.RowKit

theorem drewN_below (w : World) (n : Nat) : Below w.heap.size w (w.drewN n) := ⟨rfl, rfl, rfl, Nat.le_refl _, fun _ _ => rfl⟩

/-- a slice of slices of bytes reads as the lists ls -/
structure SlicesAt (w : World) (a : Option Addr) (ls : List (List Int)) : Prop where
  at_ : ∀ i, i < ls.length → ∃ x A C, a = some x ∧ w.cell? (x.add i) = some (.slice A (ls.getD i []).length C) ∧ x.block < w.heap.size ∧ Reads w A (ls.getD i [])

theorem SlicesAt.below {w w' : World} {a : Option Addr} {ls : List (List Int)} (h : SlicesAt w a ls) (hb : Below w.heap.size w w') : SlicesAt w' a ls :=
  ⟨fun i hi => by
    obtain ⟨x, A, C, hx, hc, hlt, hr⟩ := h.at_ i hi
    exact ⟨x, A, C, hx, (hb.cell (p := x.add i) (by rw [add_block]; exact hlt)).trans hc, Nat.lt_of_lt_of_le hlt hb.size, hr.below hb⟩⟩

/-- what Scan told -/
theorem Scanned.slices {bs : List Int} {w w' : World} {xs : List Rec} {v : Value} {good : Nat} (h : Scanned bs w w' xs v good) : ∃ a c, v = .slice a xs.length c ∧ SlicesAt w' a (xs.map Rec.zs) ∧ xs.length ≤ c ∧ (a = none → c = 0) := by
  rcases h.row.2 with ⟨rfl, h0⟩ | ⟨g, cap, cur, rfl, hB, hg, hc, _⟩
  · have hx : xs = [] := by
      cases xs with
      | nil => rfl
      | cons x xs => simp at h0
    subst hx
    exact ⟨none, 0, rfl, ⟨fun i hi => by simp at hi⟩, Nat.le_refl _, fun _ => rfl⟩
  · refine ⟨some ⟨g, 0, none⟩, cap, rfl, ⟨fun i hi => ?_⟩, hc, fun e => by cases e⟩
    rw [List.length_map] at hi
    have k := h.row.cellAt i (by omega)
    have hget : (xs.map Rec.val)[i]? = some (xs[i]).val := by simp [hi]
    rw [hget] at k
    have hz : (xs.map Rec.zs).getD i [] = (xs[i]).zs := by simp [List.getD, hi]
    refine ⟨⟨g, 0, none⟩, some ⟨(xs[i]).g, 0, none⟩, (xs[i]).c, rfl, ?_, lt_of_block hg, ?_⟩
    · rw [hz, show ((⟨g, 0, none⟩ : Addr).add i) = ⟨g, i, none⟩ by unfold Addr.add; split <;> simp_all, k]
      rfl
    · rw [hz]
      exact (h.here _ (List.getElem_mem hi)).1.reads

set_option maxRecDepth 100000 in
set_option maxHeartbeats 1000000 in
theorem same_any (a1 : Option Addr) (n1 c1 : Nat) (l1 : List (List Int)) (a2 : Option Addr) (n2 c2 : Nat) (l2 : List (List Int)) (w : World) (h1 : SlicesAt w a1 l1) (hn1 : n1 = l1.length) (h2 : SlicesAt w a2 l2) (hn2 : n2 = l2.length) (hl : n1 ≤ 1000000) (hl2 : n2 ≤ 1000000) :
    Calls Try.prog 13 #[.slice a1 n1 c1, .slice a2 n2 c2] w fun e w' => e = .returned (.bool (decide (l1 = l2))) ∧ Below w.heap.size w w' := by
  have H1 := Lib.hid h1
  have H2 := Lib.hid h2
  have N1 := Lib.hid hn1
  have N2 := Lib.hid hn2
  clear h1 h2 hn1 hn2
  by_cases hlen : n1 = n2
  · subst hlen
    go_enter Try.func13, Try.ntmps13
    go_wp2
    go_loopw [5] (fun i wr => ∃ k : Nat, k ≤ n1 ∧ i = .int .i64 (k : Int) ∧ Hid (∀ j, j < k → l1.getD j [] = l2.getD j []) ∧ Below w.heap.size w wr) (fun i _ => n1 - (intOf i).toNat)
    case atStart => exact ⟨0, by omega, rfl, fun j hj => by omega, Below.refl _ _⟩
    case round =>
      obtain ⟨k, hk, rfl, HE, hb⟩ := hrel
      by_cases hlt : k < n1
      · obtain ⟨x1, A1, C1, rfl, hc1, _, hr1⟩ := (H1.out.below hb).at_ k (by rw [← N1.out]; exact hlt)
        obtain ⟨x2, A2, C2, rfl, hc2, _, hr2⟩ := (H2.out.below hb).at_ k (by rw [← N2.out]; exact hlt)
        have hse := str_eq hr1.hr hr2.hr
        obtain ⟨y1, hy1⟩ : ∃ y1, y1 = l1.getD k [] := ⟨_, rfl⟩
        obtain ⟨y2, hy2⟩ : ∃ y2, y2 = l2.getD k [] := ⟨_, rfl⟩
        rw [← hy1] at hc1 hr1 hse
        rw [← hy2] at hc2 hr2 hse
        have q1 : ∀ n, (convert 22 9 (.slice A1 y1.length C1)).run Try.prog (wr.drewN n) = .ok (.string (strOfNums y1)) (wr.drewN n) := fun n => (hr1.below (drewN_below wr n)).text _ C1 rfl
        have q2 : ∀ n, (convert 22 9 (.slice A2 y2.length C2)).run Try.prog (wr.drewN n) = .ok (.string (strOfNums y2)) (wr.drewN n) := fun n => (hr2.below (drewN_below wr n)).text _ C2 rfl
        have HY1 := Lib.hid hy1
        have HY2 := Lib.hid hy2
        have HSE := Lib.hid hse
        have HB := Lib.hid hb
        clear hy1 hy2 hse hb hr1 hr2
        go_wp2_with fail
        go_quiet (fail)
        have hbb := HSE.out
        generalize ((strOfNums y1).toList == (strOfNums y2).toList) = bb at hbb ⊢
        have hb2 : Below w.heap.size w (wr.drewN nq) := HB.out.trans ⟨rfl, rfl, rfl, Nat.le_refl _, fun _ _ => rfl⟩
        by_cases he : y1 = y2
        · rw [decide_eq_true he] at hbb
          subst hbb
          have hE2 : Hid (∀ j, j < k + 1 → l1.getD j [] = l2.getD j []) := fun j hj => by
            rcases Nat.lt_or_ge j k with h' | h'
            · exact HE.out j h'
            · obtain rfl : j = k := by omega
              rw [← HY1.out, ← HY2.out, he]
          clear he q1 q2
          go_wp2
          go_roundw
          case rel => exact ⟨k + 1, by omega, by go_num, hE2, hb2⟩
          case measure => simp [intOf]; omega
        · rw [decide_eq_false he] at hbb
          subst hbb
          have hne : Hid (decide (l1 = l2) = false) := by
            show decide (l1 = l2) = false
            rw [decide_eq_false_iff_not]
            intro h
            exact he (by rw [HY1.out, HY2.out, h])
          clear he q1 q2
          go_wp2
          go_ret
          exact ⟨by rw [hne.out]; rfl, hb2⟩
      · have heq : Hid (decide (l1 = l2) = true) := by
          show decide (l1 = l2) = true
          rw [decide_eq_true_eq]
          have e1 := N1.out
          have e2 := N2.out
          refine List.ext_getElem (by omega) fun i hi1 hi2 => ?_
          have := HE.out i (by omega)
          simpa [List.getD, hi1, hi2] using this
        go_wp2
        go_ret
        exact ⟨by rw [heq.out]; rfl, hb⟩
  · have hne : Hid (decide (l1 = l2) = false) := by
      show decide (l1 = l2) = false
      rw [decide_eq_false_iff_not]
      intro h
      exact hlen (by rw [N1.out, N2.out, h])
    go_enter Try.func13, Try.ntmps13
    go_wp2
    go_ret
    exact ⟨by rw [hne.out]; rfl, Below.refl _ _⟩

end Go.Proofs.Ytlebeegcdadgiaa
