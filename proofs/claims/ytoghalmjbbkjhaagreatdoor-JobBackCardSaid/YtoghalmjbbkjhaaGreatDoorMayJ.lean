/- job.May, by its contract: of any job. -/
import Derived.Test.YtoghalmjbbkjhaaGreatDoorMaj
namespace Go.Proofs.YtoghalmjbbkjhaaGreatDoor.Job
open Go.RowKit

theorem loop_len (s : ByteArray) : ∀ (n i : Nat) (r : List UInt8), s.size - i = n → (ByteArray.toList.loop s i r).length = n + r.length
  | 0, i, r, h => by
    rw [ByteArray.toList.loop, if_neg (by omega), List.length_reverse]; omega
  | n + 1, i, r, h => by
    rw [ByteArray.toList.loop, if_pos (by omega), loop_len s n (i + 1) _ (by omega), List.length_cons]; omega
theorem tl_empty (s : ByteArray) : s.toList.isEmpty = decide (s.size = 0) := by
  have h := loop_len s s.size 0 [] rfl
  have e : s.toList.length = s.size := by unfold ByteArray.toList; simpa using h
  cases hl : s.toList with
  | nil => rw [hl] at e; simp at e; rw [← e]; rfl
  | cons a l => rw [hl] at e; simp at e; rw [← e]; simp

set_option maxRecDepth 100000 in
theorem withinI_any (n l h : Int) (w : World) : Calls Tryz.prog 49 #[.int .i64 n, .int .i64 l, .int .i64 h] w fun e w' => e = .returned (.bool (within n l h)) ∧ w' = w := by
  unfold within
  by_cases h1 : l ≤ n
  · have d1 : decide (l ≤ n) = true := decide_eq_true h1
    rw [d1, Bool.true_and]
    go_enter Tryz.func49, Tryz.ntmps49
    go_wp2
    go_ret
    exact ⟨by first | rfl | simp, rfl⟩
  · have d1 : decide (l ≤ n) = false := decide_eq_false h1
    rw [d1, Bool.false_and]
    go_enter Tryz.func49, Tryz.ntmps49
    go_wp2
    go_ret
    exact ⟨by first | rfl | simp, rfl⟩
set_option maxRecDepth 100000 in
theorem withinL_any (n l h : Int) (w : World) : Calls Tryz.prog 50 #[.int .i64 n, .int .i64 l, .int .i64 h] w fun e w' => e = .returned (.bool (within n l h)) ∧ w' = w := by
  unfold within
  by_cases h1 : l ≤ n
  · have d1 : decide (l ≤ n) = true := decide_eq_true h1
    rw [d1, Bool.true_and]
    go_enter Tryz.func50, Tryz.ntmps50
    go_wp2
    go_ret
    exact ⟨by first | rfl | simp, rfl⟩
  · have d1 : decide (l ≤ n) = false := decide_eq_false h1
    rw [d1, Bool.false_and]
    go_enter Tryz.func50, Tryz.ntmps50
    go_wp2
    go_ret
    exact ⟨by first | rfl | simp, rfl⟩

set_option maxRecDepth 100000 in
set_option maxHeartbeats 4000000 in
theorem numbersMay_any (j : J) (w : World) : Calls Tryz.prog 22 #[j.val] w fun e w' => e = .returned (.bool j.nums) ∧ Below w.heap.size w w' := by
  obtain ⟨id, name, expr, pol, gra, lim, ret, tim, da, dc, deps, pau, ver, seen⟩ := j
  unfold J.val J.cells jcells J.nums
  dsimp only
  have H1 := Lib.hid (withinI_any pol 1 3)
  have H2 := Lib.hid (withinL_any gra 0 604800)
  have H3 := Lib.hid (withinI_any lim 1 8)
  have H4 := Lib.hid (withinI_any ret 0 5)
  have H5 := Lib.hid (withinL_any tim 1 86400)
  have H6 := Lib.hid (withinL_any seen (-1) 13569465599)
  generalize within pol 1 3 = c1 at *
  generalize within gra 0 604800 = c2 at *
  generalize within lim 1 8 = c3 at *
  generalize within ret 0 5 = c4 at *
  generalize within tim 1 86400 = c5 at *
  generalize within seen (-1) 13569465599 = c6 at *
  obtain ⟨k, hk⟩ : ∃ k, k = deps.length := ⟨_, rfl⟩
  rw [← hk]
  clear hk
  go_enter Tryz.func22, Tryz.ntmps22
  go_wp2_with fail
  refine (H1.out _).mono ?_
  rintro e w1 ⟨rfl, rfl⟩
  cases c1 with
  | false =>
    go_wp2_with fail
    go_ret
    exact ⟨rfl, (Below.refl _ _).alloc (Nat.le_refl _) _⟩
  | true =>
  go_wp2_with fail
  refine (H2.out _).mono ?_
  rintro e w1 ⟨rfl, rfl⟩
  cases c2 with
  | false =>
    go_wp2_with fail
    go_ret
    exact ⟨rfl, (Below.refl _ _).alloc (Nat.le_refl _) _⟩
  | true =>
  go_wp2_with fail
  refine (H3.out _).mono ?_
  rintro e w1 ⟨rfl, rfl⟩
  cases c3 with
  | false =>
    go_wp2_with fail
    go_ret
    exact ⟨rfl, (Below.refl _ _).alloc (Nat.le_refl _) _⟩
  | true =>
  go_wp2_with fail
  refine (H4.out _).mono ?_
  rintro e w1 ⟨rfl, rfl⟩
  cases c4 with
  | false =>
    go_wp2_with fail
    go_ret
    exact ⟨rfl, (Below.refl _ _).alloc (Nat.le_refl _) _⟩
  | true =>
  go_wp2_with fail
  refine (H5.out _).mono ?_
  rintro e w1 ⟨rfl, rfl⟩
  cases c5 with
  | false =>
    go_wp2_with fail
    go_ret
    exact ⟨rfl, (Below.refl _ _).alloc (Nat.le_refl _) _⟩
  | true =>
  go_wp2_with fail
  refine (H6.out _).mono ?_
  rintro e w1 ⟨rfl, rfl⟩
  go_wp2_with fail
  go_ret
  exact ⟨by first | rfl | simp, (Below.refl _ _).alloc (Nat.le_refl _) _⟩

/-- a job in a block of a call's own -/
def jobj (j : J) : Obj := .cells j.cells 25 (0, 0)
theorem jobj_cells {W : World} {B : Nat} {j : J} (h : W.heap[B]? = some (jobj j)) :
    (W.cell? ⟨B, 0, none⟩ = some (.int .u64 j.id) ∧ W.cell? ⟨B, 1, none⟩ = some (.string j.name) ∧ W.cell? ⟨B, 2, none⟩ = some (.string j.expr) ∧ W.cell? ⟨B, 3, none⟩ = some (.int .i64 j.pol) ∧
    W.cell? ⟨B, 4, none⟩ = some (.int .i64 j.gra) ∧ W.cell? ⟨B, 5, none⟩ = some (.int .i64 j.lim)) ∧ (W.cell? ⟨B, 6, none⟩ = some (.int .i64 j.ret) ∧ W.cell? ⟨B, 7, none⟩ = some (.int .i64 j.tim) ∧
    W.cell? ⟨B, 8, none⟩ = some (.slice j.da j.deps.length j.dc) ∧ W.cell? ⟨B, 9, none⟩ = some (.bool j.pau) ∧ W.cell? ⟨B, 10, none⟩ = some (.int .u64 j.ver) ∧ W.cell? ⟨B, 11, none⟩ = some (.int .i64 j.seen)) :=
  ⟨⟨cell_of_row _ B 0 _ _ _ h, cell_of_row _ B 1 _ _ _ h, cell_of_row _ B 2 _ _ _ h, cell_of_row _ B 3 _ _ _ h, cell_of_row _ B 4 _ _ _ h, cell_of_row _ B 5 _ _ _ h⟩, cell_of_row _ B 6 _ _ _ h, cell_of_row _ B 7 _ _ _ h, cell_of_row _ B 8 _ _ _ h, cell_of_row _ B 9 _ _ _ h, cell_of_row _ B 10 _ _ _ h, cell_of_row _ B 11 _ _ _ h⟩

/-- the box of a parameter -/
theorem box_new (w : World) (j : J) : (w.alloc (.cells #[.int .u64 j.id, .string j.name, .string j.expr, .int .i64 j.pol, .int .i64 j.gra, .int .i64 j.lim, .int .i64 j.ret, .int .i64 j.tim, .slice j.da j.deps.length j.dc, .bool j.pau, .int .u64 j.ver, .int .i64 j.seen] 25)).heap[w.heap.size]? = some (jobj j) := heap_alloc_new w _

set_option maxRecDepth 100000 in
set_option maxHeartbeats 4000000 in
theorem mayJ_any (j : J) (w : World) (hw : TabsOn w) (hn : NamesOn w) : Calls Tryz.prog 10 #[j.val] w fun e w' => e = .returned (.int .i64 j.err) ∧ Below w.heap.size w w' := by
  have HNUM := Lib.hid (numbersMay_any j)
  have HP := Lib.hid (fun W hW => parseX_any j.expr W (hw.next hW) (hn.next hW))
  have HER := Lib.hid (@J.err_name j)
  have HEE := Lib.hid (@J.err_expr j)
  have HED := Lib.hid (@J.err_deps j)
  have HES := Lib.hid (@J.err_rest j)
  have HB := Lib.hid (box_new w j)
  generalize j.err = r at *
  generalize j.nums = nums at *
  unfold J.val J.cells jcells at *
  unfold pres7 xval xcells at HP
  generalize Cron.pB j.expr.data.toList = B at *
  generalize Cron.pS j.expr.data.toList = S at *
  generalize Cron.pErr j.expr.data.toList = pe at *
  clear hw hn
  by_cases h0 : j.name.size = 0
  · have hd0 : j.name.toList.isEmpty = true := by rw [tl_empty, decide_eq_true h0]
    have hR := HER.out (.inl h0)
    subst hR
    clear HNUM HP HER HEE HED HES h0
    go_enter Tryz.func10, Tryz.ntmps10
    go_wp2_with fail
    go_ret
    exact ⟨rfl, (Below.refl _ _).alloc (Nat.le_refl _) _⟩
  have hd0 : j.name.toList.isEmpty = false := by rw [tl_empty, decide_eq_false h0]
  by_cases h32 : 32 < j.name.size
  · have hR := HER.out (.inr h32)
    have hd : decide ((32 : Int) < (j.name.size : Int)) = true := by simp; omega
    subst hR
    clear HNUM HP HER HEE HED HES h0
    go_enter Tryz.func10, Tryz.ntmps10
    go_wp2_with fail
    go_ret
    exact ⟨rfl, (Below.refl _ _).alloc (Nat.le_refl _) _⟩
  have hd : decide ((32 : Int) < (j.name.size : Int)) = false := by simp; omega
  have hnn : ¬ (j.name.size = 0 ∨ 32 < j.name.size) := by omega
  have HEE := Lib.hid (HEE.out hnn)
  have HED := Lib.hid (HED.out hnn)
  have HES := Lib.hid (HES.out hnn)
  clear HER h0 h32 hnn
  go_enter Tryz.func10, Tryz.ntmps10
  go_wp2_with fail
  refine (HP.out _ ((Below.refl _ _).alloc (Nat.le_refl _) _)).mono ?_
  rintro e w1 ⟨rfl, hb1⟩
  have hx0 : (⟨w.heap.size, 0, none⟩ : Addr) = ⟨w.heap.size, 0, none⟩ := rfl
  have hs1 := hb1.size
  have hbel1 : Below w.heap.size w w1 := ((Below.refl _ _).alloc (Nat.le_refl _) _).trans (hb1.mono (by simp))
  have hrow1 : w1.heap[w.heap.size]? = some (jobj j) := (hb1.block _ (by simp)).trans HB.out
  have hrow2 : (w1.alloc (.cells #[.int .u64 ((B 0 : Nat) : Int), .bool (S 0), .int .u64 ((B 1 : Nat) : Int), .bool (S 1), .int .u64 ((B 2 : Nat) : Int), .bool (S 2), .int .u64 ((B 3 : Nat) : Int), .bool (S 3), .int .u64 ((B 4 : Nat) : Int), .bool (S 4)] 43)).heap[w.heap.size]? = some (jobj j) :=
    (((Below.refl _ _).alloc (Nat.le_refl _) _).block _ (by simp at hs1; omega)).trans hrow1
  have hbel2 := hbel1.alloc hbel1.size (.cells #[.int .u64 ((B 0 : Nat) : Int), .bool (S 0), .int .u64 ((B 1 : Nat) : Int), .bool (S 1), .int .u64 ((B 2 : Nat) : Int), .bool (S 2), .int .u64 ((B 3 : Nat) : Int), .bool (S 3), .int .u64 ((B 4 : Nat) : Int), .bool (S 4)] 43)
  have HR2 := Lib.hid hrow2
  have HL2 := Lib.hid hbel2
  clear hb1 hs1 hbel1 hrow1 hrow2 hbel2 hx0 HP HB
  by_cases hp : pe = 0
  · subst hp
    have HED := Lib.hid (HED.out rfl)
    have HES := Lib.hid (HES.out rfl)
    clear HEE
    obtain ⟨⟨c0, c1, c2, c3, c4, c5⟩, c6, c7, c8, c9, c10, c11⟩ := jobj_cells HR2.out
    by_cases h8 : 8 < j.deps.length
    · have hR := HED.out h8
      have hd8 : decide ((8 : Int) < (j.deps.length : Int)) = true := by simp; omega
      subst hR
      clear HED HES HNUM
      go_wp2_with fail
      go_ret
      exact ⟨rfl, HL2.out⟩
    · have hR := HES.out h8
      have hd8 : decide ((8 : Int) < (j.deps.length : Int)) = false := by simp; omega
      clear HED HES
      go_wp2_with fail
      refine (HNUM.out _).mono ?_
      rintro e w3 ⟨rfl, hb3⟩
      have HL3 := Lib.hid (HL2.out.trans (hb3.mono HL2.out.size))
      clear hb3 c0 c1 c2 c3 c4 c5 c6 c7 c8 c9 c10 c11
      cases nums with
      | true =>
        rw [if_neg (by simp)] at hR
        subst hR
        go_wp2_with fail
        go_ret
        exact ⟨rfl, HL3.out⟩
      | false =>
        rw [if_pos rfl] at hR
        subst hR
        go_wp2_with fail
        go_ret
        exact ⟨rfl, HL3.out⟩
  · have hR := HEE.out hp
    have hpd : decide ((pe : Int) = 0) = false := by simp; omega
    have hpi : ¬ (pe : Int) = 0 := by omega
    subst hR
    clear HEE HED HES HNUM
    go_wp2_with fail
    go_ret
    exact ⟨rfl, HL2.out⟩

/-- a job that is more than the law looks at -/
def J.great (j : J) : Bool := decide (100 < j.name.size) || (decide (600 < j.expr.size) || decide (20 < j.deps.length))
set_option maxRecDepth 100000 in
set_option maxHeartbeats 1000000 in
theorem great_any (j : J) (w : World) : Calls Tryz.prog 6 #[j.val] w fun e w' => e = .returned (.bool j.great) ∧ Below w.heap.size w w' := by
  unfold J.val J.cells jcells J.great
  by_cases h1 : 100 < j.name.size
  · have d1 : decide ((100 : Int) < (j.name.size : Int)) = true := by simp; omega
    rw [decide_eq_true h1, Bool.true_or]
    clear h1
    go_enter Tryz.func6, Tryz.ntmps6
    go_wp2_with fail
    go_ret
    exact ⟨rfl, (Below.refl _ _).alloc (Nat.le_refl _) _⟩
  have d1 : decide ((100 : Int) < (j.name.size : Int)) = false := by simp; omega
  rw [decide_eq_false h1, Bool.false_or]
  by_cases h2 : 600 < j.expr.size
  · have d2 : decide ((600 : Int) < (j.expr.size : Int)) = true := by simp; omega
    rw [decide_eq_true h2, Bool.true_or]
    clear h1 h2
    go_enter Tryz.func6, Tryz.ntmps6
    go_wp2_with fail
    go_ret
    exact ⟨rfl, (Below.refl _ _).alloc (Nat.le_refl _) _⟩
  have d2 : decide ((600 : Int) < (j.expr.size : Int)) = false := by simp; omega
  rw [decide_eq_false h2, Bool.false_or]
  by_cases h3 : 20 < j.deps.length
  · have d3 : decide ((20 : Int) < (j.deps.length : Int)) = true := by simp; omega
    rw [decide_eq_true h3]
    clear h1 h2 h3
    go_enter Tryz.func6, Tryz.ntmps6
    go_wp2_with fail
    go_ret
    exact ⟨rfl, (Below.refl _ _).alloc (Nat.le_refl _) _⟩
  have d3 : decide ((20 : Int) < (j.deps.length : Int)) = false := by simp; omega
  rw [decide_eq_false h3]
  clear h1 h2 h3
  go_enter Tryz.func6, Tryz.ntmps6
  go_wp2_with fail
  go_ret
  exact ⟨rfl, (Below.refl _ _).alloc (Nat.le_refl _) _⟩
end Go.Proofs.YtoghalmjbbkjhaaGreatDoor.Job
