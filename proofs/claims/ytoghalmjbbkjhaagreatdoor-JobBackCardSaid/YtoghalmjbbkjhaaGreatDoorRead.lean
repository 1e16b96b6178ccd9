/- field.within, field.read and its closure, by their contracts. -/
import Derived.Test.YtoghalmjbbkjhaaGreatDoorNumber
namespace Go.Proofs.YtoghalmjbbkjhaaGreatDoor
open Go.RowKit

def itemV (f l s : Nat) : Value := .agg #[.int .i64 (f : Int), .int .i64 (l : Int), .int .i64 (s : Int)]
def iobj (f l s : Nat) : Obj := .cells #[.int .i64 (f : Int), .int .i64 (l : Int), .int .i64 (s : Int)] 117 (0, 0)

theorem within_eq (k f l s : Nat) : Fld.within k ⟨f, l, s⟩ = (decide (Fld.lo k ≤ f) && (decide (f ≤ l) && (decide (l ≤ Fld.top k) && (decide ((1 : Int) ≤ (s : Int)) && decide ((s : Int) ≤ 59))))) := by
  rw [Bool.eq_iff_iff, Fld.within_iff]
  simp only [Bool.and_eq_true, decide_eq_true_eq]
  omega
theorem top_four {k : Nat} (h : k = 4) : Fld.top k = 7 := if_pos h
theorem top_else {k : Nat} (h : k ≠ 4) : Fld.top k = Fld.hi k := if_neg h

set_option maxRecDepth 100000 in
set_option maxHeartbeats 1000000 in
theorem within_any (k f l s : Nat) (hk : k ≤ 4) (w : World) (hw : TabsOn w) : Calls Tryz.prog 79 #[.int .i64 (k : Int), itemV f l s] w fun e w' => e = .returned (.bool (Fld.within k ⟨f, l, s⟩)) ∧ Below w.heap.size w w' := by
  have hbel : Below w.heap.size w (w.alloc (.cells #[.int .i64 (f : Int), .int .i64 (l : Int), .int .i64 (s : Int)] 117)) := (Below.refl _ _).alloc (Nat.le_refl _) _
  have hrow := heap_alloc_new w (.cells #[.int .i64 (f : Int), .int .i64 (l : Int), .int .i64 (s : Int)] 117)
  have c0 := cell_of_row _ w.heap.size 0 _ _ _ hrow
  have c1 := cell_of_row _ w.heap.size 1 _ _ _ hrow
  have c2 := cell_of_row _ w.heap.size 2 _ _ _ hrow
  have hlow := (hw.on hbel).low k hk
  obtain ⟨d0, d1⟩ := hlow
  have hk5 : (k : Int) < 5 := by omega
  have HE := Lib.hid (within_eq k f l s)
  generalize Fld.within k ⟨f, l, s⟩ = R at HE ⊢
  clear hrow hw
  unfold itemV
  have HT4 : k = 4 → Fld.top k = 7 := top_four
  have HT5 : k ≠ 4 → Fld.top k = Fld.hi k := top_else
  obtain ⟨T, hT⟩ : ∃ T, T = Fld.top k := ⟨_, rfl⟩
  rw [← hT] at HE HT4 HT5
  clear hT
  generalize Fld.lo k = L at *
  generalize Fld.hi k = H at *
  by_cases h4 : k = 4
  · obtain rfl : T = 7 := HT4 h4
    have g4 : ((k : Int) == 4) = true := by simp; omega
    clear HT4 HT5 h4
    rcases h0 : decide (L ≤ f) with _ | _
    · have HE2 := Lib.hid (show R = _ from by rw [HE.out, h0])
      clear HE
      go_enter Tryz.func79, Tryz.ntmps79
      go_wp2_with fail
      go_quiet (fail)
      go_wp2_with fail
      go_ret
      exact ⟨by rw [HE2.out]; rfl, many_drew hbel nq⟩
    · rcases h1 : decide (f ≤ l) with _ | _
      · have HE2 := Lib.hid (show R = _ from by rw [HE.out, h0, h1])
        clear HE
        go_enter Tryz.func79, Tryz.ntmps79
        go_wp2_with fail
        go_quiet (fail)
        go_wp2_with fail
        go_ret
        exact ⟨by rw [HE2.out]; rfl, many_drew hbel nq⟩
      · have e7 : decide ((l : Int) ≤ 7) = decide (l ≤ 7) := by simp; omega
        rcases h2 : decide (l ≤ 7) with _ | _
        · have HE2 := Lib.hid (show R = _ from by rw [HE.out, h0, h1, h2])
          clear HE
          go_enter Tryz.func79, Tryz.ntmps79
          go_wp2_with fail
          go_quiet (fail)
          go_wp2_with fail
          go_ret
          exact ⟨by rw [HE2.out]; rfl, many_drew hbel nq⟩
        · rcases h3 : decide ((1 : Int) ≤ (s : Int)) with _ | _
          · have HE2 := Lib.hid (show R = _ from by rw [HE.out, h0, h1, h2, h3])
            clear HE
            go_enter Tryz.func79, Tryz.ntmps79
            go_wp2_with fail
            go_quiet (fail)
            go_wp2_with fail
            go_ret
            exact ⟨by rw [HE2.out]; rfl, many_drew hbel nq⟩
          · rcases h4 : decide ((s : Int) ≤ 59) with _ | _
            · have HE2 := Lib.hid (show R = _ from by rw [HE.out, h0, h1, h2, h3, h4])
              clear HE
              go_enter Tryz.func79, Tryz.ntmps79
              go_wp2_with fail
              go_quiet (fail)
              go_wp2_with fail
              go_ret
              exact ⟨by rw [HE2.out]; rfl, many_drew hbel nq⟩
            · have HE2 := Lib.hid (show R = _ from by rw [HE.out, h0, h1, h2, h3, h4])
              clear HE
              go_enter Tryz.func79, Tryz.ntmps79
              go_wp2_with fail
              go_quiet (fail)
              go_wp2_with fail
              go_ret
              exact ⟨by rw [HE2.out]; rfl, many_drew hbel nq⟩
  · obtain rfl : T = H := HT5 h4
    have g4 : ((k : Int) == 4) = false := by simp; omega
    clear HT4 HT5 h4
    rcases h0 : decide (L ≤ f) with _ | _
    · have HE2 := Lib.hid (show R = _ from by rw [HE.out, h0])
      clear HE
      go_enter Tryz.func79, Tryz.ntmps79
      go_wp2_with fail
      go_quiet (fail)
      go_wp2_with fail
      go_ret
      exact ⟨by rw [HE2.out]; rfl, many_drew hbel nq⟩
    · rcases h1 : decide (f ≤ l) with _ | _
      · have HE2 := Lib.hid (show R = _ from by rw [HE.out, h0, h1])
        clear HE
        go_enter Tryz.func79, Tryz.ntmps79
        go_wp2_with fail
        go_quiet (fail)
        go_wp2_with fail
        go_ret
        exact ⟨by rw [HE2.out]; rfl, many_drew hbel nq⟩
      · rcases h2 : decide (l ≤ T) with _ | _
        · have HE2 := Lib.hid (show R = _ from by rw [HE.out, h0, h1, h2])
          clear HE
          go_enter Tryz.func79, Tryz.ntmps79
          go_wp2_with fail
          go_quiet (fail)
          go_wp2_with fail
          go_ret
          exact ⟨by rw [HE2.out]; rfl, many_drew hbel nq⟩
        · rcases h3 : decide ((1 : Int) ≤ (s : Int)) with _ | _
          · have HE2 := Lib.hid (show R = _ from by rw [HE.out, h0, h1, h2, h3])
            clear HE
            go_enter Tryz.func79, Tryz.ntmps79
            go_wp2_with fail
            go_quiet (fail)
            go_wp2_with fail
            go_ret
            exact ⟨by rw [HE2.out]; rfl, many_drew hbel nq⟩
          · rcases h4 : decide ((s : Int) ≤ 59) with _ | _
            · have HE2 := Lib.hid (show R = _ from by rw [HE.out, h0, h1, h2, h3, h4])
              clear HE
              go_enter Tryz.func79, Tryz.ntmps79
              go_wp2_with fail
              go_quiet (fail)
              go_wp2_with fail
              go_ret
              exact ⟨by rw [HE2.out]; rfl, many_drew hbel nq⟩
            · have HE2 := Lib.hid (show R = _ from by rw [HE.out, h0, h1, h2, h3, h4])
              clear HE
              go_enter Tryz.func79, Tryz.ntmps79
              go_wp2_with fail
              go_quiet (fail)
              go_wp2_with fail
              go_ret
              exact ⟨by rw [HE2.out]; rfl, many_drew hbel nq⟩

/-- what the closure does: the number is told, and whether all was good so far is kept -/
theorem take_any (k : Nat) (hk : k ≤ 4) (s : ByteArray) (hl : s.size ≤ 1000000) (K G : Nat) (g : Bool) (w : World) (hw : TabsOn w) (hK : w.heap[K]? = some (.cells #[.int .i64 (k : Int)] 3 (0, 0))) (hG : w.heap[G]? = some (.cells #[.bool g] 4 (0, 0))) :
    Calls Tryz.prog 94 #[.string s, .pointer (some ⟨K, 0, none⟩), .pointer (some ⟨G, 0, none⟩)] w fun e w' => e = .returned (.int .i64 (((Fld.number k s.data.toList).getD 0 : Nat) : Int)) ∧ ∃ w1, Below w.heap.size w w1 ∧ w' = w1.setCell ⟨G, 0, none⟩ (.bool (g && (Fld.number k s.data.toList).isSome)) := by
  have HN := Lib.hid (number_any k hk s hl w hw)
  have cK := cell_of_row _ K 0 _ _ _ hK
  have HG := Lib.hid hG
  generalize Fld.number k s.data.toList = R at *
  clear hG hw
  go_enter Tryz.func94, Tryz.ntmps94
  go_wp2_with fail
  with_reducible refine HN.out.mono ?_
  rintro e w1 ⟨rfl, hb⟩
  have hG1 := (hb.block G (lt_of_block HG.out)).trans HG.out
  have cG := cell_of_row _ G 0 _ _ _ hG1
  have fG := row_free hG1 0
  unfold numOf
  clear hG1 cK hK
  cases g
  · go_wp2_with fail
    go_ret
    exact ⟨rfl, w1, hb, rfl⟩
  · go_wp2_with fail
    go_ret
    exact ⟨rfl, w1, hb, rfl⟩
end Go.Proofs.YtoghalmjbbkjhaaGreatDoor
