/- The reference's bad, fits, tomorrow, by their contracts. The reference's tomorrow and yesterday, by their contracts. -/
import Derived.Test.YtgcineaodfomeaaDoorRefusal
import Derived.Test.YtgcineaodfomeaaDoorCJoinR
import Derived.Deep.RegionHeld3
import Derived.Test.YtgcineaodfomeaaDoorFireM
namespace Go.Proofs.YtgcineaodfomeaaDoor
open Go.RowKit

theorem refBad_any (b : Nat → Nat) (s : Nat → Bool) (hb : ∀ k, k < 5 → b k < 2 ^ 64) (t : Int) (w : World) :
    Calls Tryd.prog 17 #[xval b s, .int .i64 t] w fun e w' => e = .returned (.int .i64 (refusedOf (Cron.may b) [t])) ∧ Below w.heap.size w w' := by
  have O := Lib.hid (OwnX.new w b s)
  have HM := Lib.hid (refMayX_any b s hb)
  have hcase : (Cron.may b = false ∧ refusedOf (Cron.may b) [t] = 2) ∨ (Cron.may b = true ∧ decide (t < 0) = true ∧ refusedOf (Cron.may b) [t] = 50) ∨ (Cron.may b = true ∧ (decide (t < 0) = false ∧ decide (13569465600 ≤ t) = true) ∧ refusedOf (Cron.may b) [t] = 50) ∨ (Cron.may b = true ∧ (decide (t < 0) = false ∧ decide (13569465600 ≤ t) = false) ∧ refusedOf (Cron.may b) [t] = 0) := by
    cases hm : Cron.may b
    · exact .inl ⟨rfl, rfl⟩
    · by_cases h : 0 ≤ t ∧ t < 13569465600
      · refine .inr (.inr (.inr ⟨rfl, ⟨decide_eq_false (by omega), decide_eq_false (by omega)⟩, refused_ok fun i u hu => ?_⟩))
        match i with
        | 0 => simp at hu; subst hu; unfold farOut; simp; omega
        | i + 1 => simp at hu
      · have hq : refusedOf true [t] = 50 := refused_out (i := 0) rfl (by unfold farOut; simp; omega)
        by_cases h0 : t < 0
        · exact .inr (.inl ⟨rfl, decide_eq_true h0, hq⟩)
        · exact .inr (.inr (.inl ⟨rfl, ⟨decide_eq_false h0, decide_eq_true (by omega)⟩, hq⟩))
  generalize refusedOf (Cron.may b) [t] = R at *
  generalize Cron.may b = mv at *
  obtain ⟨x0, x1, x2, x3, x4, x5, x6, x7, x8, x9⟩ := xobj_cells O.out.row
  unfold xval xcells at *
  clear hb
  go_enter Tryd.func17, Tryd.ntmps17
  go_wp2_with fail
  with_reducible refine (HM.out _).mono ?_
  rintro e w1 ⟨rfl, hb1⟩
  have O1 := Lib.hid (O.out.below hb1)
  clear hb1 O HM x0 x1 x2 x3 x4 x5 x6 x7 x8 x9
  rcases hcase with ⟨rfl, rfl⟩ | ⟨rfl, g0, rfl⟩ | ⟨rfl, ⟨g0, g1⟩, rfl⟩ | ⟨rfl, ⟨g0, g1⟩, rfl⟩
  · go_wp2_with fail
    go_ret
    exact ⟨rfl, O1.out.bel⟩
  · go_wp2_with fail
    go_ret
    exact ⟨rfl, O1.out.bel⟩
  · go_wp2_with fail
    go_ret
    exact ⟨rfl, O1.out.bel⟩
  · go_wp2_with fail
    go_ret
    exact ⟨rfl, O1.out.bel⟩

/-- an expression and a date in blocks of a call's own -/
structure XD (w : World) (b : Nat → Nat) (s : Nat → Bool) (y m d : Int) (W : World) : Prop where
  bel : Below w.heap.size w W
  x : W.heap[w.heap.size]? = some (xobj b s)
  d : W.heap[w.heap.size + 1]? = some (Civ.triple y m d)
theorem XD.below {w : World} {b : Nat → Nat} {s : Nat → Bool} {y m d : Int} {W W' : World} (h : XD w b s y m d W) (hb : Below W.heap.size W W') : XD w b s y m d W' :=
  ⟨h.bel.trans (hb.mono h.bel.size), (hb.block _ (lt_of_block h.x)).trans h.x, (hb.block _ (lt_of_block h.d)).trans h.d⟩
theorem XD.start (w : World) (b : Nat → Nat) (s : Nat → Bool) (y m d : Int) : XD w b s y m d
    ((w.alloc (.cells #[.int .u64 ((b 0 : Nat) : Int), .bool (s 0), .int .u64 ((b 1 : Nat) : Int), .bool (s 1), .int .u64 ((b 2 : Nat) : Int), .bool (s 2), .int .u64 ((b 3 : Nat) : Int), .bool (s 3), .int .u64 ((b 4 : Nat) : Int), .bool (s 4)] 26)).alloc (.cells #[.int .i64 y, .int .i64 m, .int .i64 d] 34)) := by
  have o := OwnX.new w b s
  have s1 : (w.alloc (.cells #[.int .u64 ((b 0 : Nat) : Int), .bool (s 0), .int .u64 ((b 1 : Nat) : Int), .bool (s 1), .int .u64 ((b 2 : Nat) : Int), .bool (s 2), .int .u64 ((b 3 : Nat) : Int), .bool (s 3), .int .u64 ((b 4 : Nat) : Int), .bool (s 4)] 26)).heap.size = w.heap.size + 1 := by simp
  generalize w.alloc (.cells #[.int .u64 ((b 0 : Nat) : Int), .bool (s 0), .int .u64 ((b 1 : Nat) : Int), .bool (s 1), .int .u64 ((b 2 : Nat) : Int), .bool (s 2), .int .u64 ((b 3 : Nat) : Int), .bool (s 3), .int .u64 ((b 4 : Nat) : Int), .bool (s 4)] 26) = W1 at *
  have h2 := heap_alloc_new W1 (.cells #[.int .i64 y, .int .i64 m, .int .i64 d] 34)
  rw [s1] at h2
  have o2 := o.alloc (.cells #[.int .i64 y, .int .i64 m, .int .i64 d] 34)
  exact ⟨o2.bel, o2.row, h2⟩

set_option maxRecDepth 100000 in
set_option maxHeartbeats 2000000 in
theorem refFits8_any (b : Nat → Nat) (s : Nat → Bool) (hb : ∀ k, k < 5 → b k < 2 ^ 64) (y m d k : Int) (w : World) :
    Calls Tryd.prog 19 #[xval b s, .agg #[.int .i64 y, .int .i64 m, .int .i64 d], .int .i64 k] w fun e w' => e = .returned (.bool (Cron.days b s m d k)) ∧ Below w.heap.size w w' := by
  have X0 := Lib.hid (XD.start w b s y m d)
  have H2 := Lib.hid (fun W => refHas_any (b 2) (hb 2 (by decide)) (s 2) d W)
  have H3 := Lib.hid (fun W => refHas_any (b 3) (hb 3 (by decide)) (s 3) m W)
  have H4 := Lib.hid (fun W => refHas_any (b 4) (hb 4 (by decide)) (s 4) k W)
  have HE : Hid (Cron.days b s m d k = (Fld.has (b 3) m && (if s 2 = true ∨ s 4 = true then Fld.has (b 2) d && Fld.has (b 4) k else Fld.has (b 2) d || Fld.has (b 4) k))) := rfl
  generalize Cron.days b s m d k = R at *
  generalize Fld.has (b 2) d = p2 at *
  generalize Fld.has (b 3) m = p3 at *
  generalize Fld.has (b 4) k = p4 at *
  obtain ⟨x0, x1, x2, x3, x4, x5, x6, x7, x8, x9⟩ := xobj_cells X0.out.x
  obtain ⟨d0, d1, d2⟩ := Civ.triple_cells X0.out.d
  unfold xval xcells at *
  clear hb
  go_enter Tryd.func19, Tryd.ntmps19
  go_wp2_with fail
  with_reducible refine (H2.out _).mono ?_
  rintro e w1 ⟨rfl, hb1⟩
  have X1 := Lib.hid (X0.out.below hb1)
  clear hb1 X0 H2 x0 x1 x2 x3 x4 x5 x6 x7 x8 x9 d0 d1 d2
  obtain ⟨x0, x1, x2, x3, x4, x5, x6, x7, x8, x9⟩ := xobj_cells X1.out.x
  go_wp2_with fail
  with_reducible refine (H4.out _).mono ?_
  rintro e w2 ⟨rfl, hb2⟩
  have X2 := Lib.hid (X1.out.below hb2)
  clear hb2 X1 H4 x0 x1 x2 x3 x4 x5 x6 x7 x8 x9
  obtain ⟨x0, x1, x2, x3, x4, x5, x6, x7, x8, x9⟩ := xobj_cells X2.out.x
  obtain ⟨d0, d1, d2⟩ := Civ.triple_cells X2.out.d
  go_wp2_with fail
  with_reducible refine (H3.out _).mono ?_
  rintro e w3 ⟨rfl, hb3⟩
  have X3 := Lib.hid (X2.out.below hb3)
  clear hb3 X2 H3 x0 x1 x2 x3 x4 x5 x6 x7 x8 x9 d0 d1 d2
  obtain ⟨x0, x1, x2, x3, x4, x5, x6, x7, x8, x9⟩ := xobj_cells X3.out.x
  clear x0 x1 x2 x3 x4 x6 x7 x8
  cases p3
  · go_wp2_with fail
    go_ret
    exact ⟨by rw [HE.out]; rfl, X3.out.bel⟩
  · generalize s 2 = s2 at *
    generalize s 4 = s4 at *
    cases s2
    · cases s4
      · cases p2
        · go_wp2_with fail
          go_ret
          exact ⟨by rw [HE.out]; rfl, X3.out.bel⟩
        · go_wp2_with fail
          go_ret
          exact ⟨by rw [HE.out]; rfl, X3.out.bel⟩
      · cases p2
        · go_wp2_with fail
          go_ret
          exact ⟨by rw [HE.out]; rfl, X3.out.bel⟩
        · go_wp2_with fail
          go_ret
          exact ⟨by rw [HE.out]; rfl, X3.out.bel⟩
    · cases p2
      · go_wp2_with fail
        go_ret
        exact ⟨by rw [HE.out]; cases s4 <;> rfl, X3.out.bel⟩
      · go_wp2_with fail
        go_ret
        exact ⟨by rw [HE.out]; cases s4 <;> rfl, X3.out.bel⟩
end Go.Proofs.YtgcineaodfomeaaDoor

namespace Go.Proofs.YtgcineaodfomeaaDoor
open Go.RowKit

/-- a date, and the result -/
structure DD (w : World) (y m d y' m' d' : Int) (W : World) : Prop where
  bel : Below w.heap.size w W
  d : W.heap[w.heap.size]? = some (Civ.triple y m d)
  r : W.heap[w.heap.size + 1]? = some (Civ.triple y' m' d')
theorem DD.below {w : World} {y m d y' m' d' : Int} {W W' : World} (h : DD w y m d y' m' d' W) (hb : Below W.heap.size W W') : DD w y m d y' m' d' W' :=
  ⟨h.bel.trans (hb.mono h.bel.size), (hb.block _ (lt_of_block h.d)).trans h.d, (hb.block _ (lt_of_block h.r)).trans h.r⟩
theorem DD.drew {w : World} {y m d y' m' d' : Int} {W : World} (h : DD w y m d y' m' d' W) : DD w y m d y' m' d' W.drew := h.below (Below.refl _ _).drew
theorem DD.start (w : World) (y m d a b c : Int) : DD w y m d a b c ((w.alloc (.cells #[.int .i64 y, .int .i64 m, .int .i64 d] 34)).alloc (.cells #[.int .i64 a, .int .i64 b, .int .i64 c] 34)) := by
  have o := Civ.OwnD.newAt (Below.refl _ w) y m d
  have s1 : (w.alloc (.cells #[.int .i64 y, .int .i64 m, .int .i64 d] 34)).heap.size = w.heap.size + 1 := by simp
  generalize w.alloc (.cells #[.int .i64 y, .int .i64 m, .int .i64 d] 34) = W1 at *
  have h2 := heap_alloc_new W1 (.cells #[.int .i64 a, .int .i64 b, .int .i64 c] 34)
  rw [s1] at h2
  have o2 := o.below ((Below.refl _ _).alloc (Nat.le_refl _) (.cells #[.int .i64 a, .int .i64 b, .int .i64 c] 34))
  exact ⟨o2.bel, o2.row, h2⟩
theorem DD.wrote {w : World} {y m d y' m' d' : Int} {W : World} (h : DD w y m d y' m' d' W) (a b c : Int) :
    DD w y m d a b c (((W.setCell ⟨w.heap.size + 1, 0, none⟩ (.int .i64 a)).setCell ⟨w.heap.size + 1, 1, none⟩ (.int .i64 b)).setCell ⟨w.heap.size + 1, 2, none⟩ (.int .i64 c)) :=
  ⟨((h.bel.setCell (p := ⟨w.heap.size + 1, 0, none⟩) (by show w.heap.size ≤ w.heap.size + 1; omega) _).setCell (p := ⟨w.heap.size + 1, 1, none⟩) (by show w.heap.size ≤ w.heap.size + 1; omega) _).setCell (p := ⟨w.heap.size + 1, 2, none⟩) (by show w.heap.size ≤ w.heap.size + 1; omega) _,
   (set_else (by omega)).trans ((set_else (by omega)).trans ((set_else (by omega)).trans h.d)), Civ.wrote_row h.r⟩
theorem DD.put {w : World} {y m d y' m' d' : Int} {W : World} (h : DD w y m d y' m' d' W) (a b c : Int) :
    DD w y m d a b c (W.setRow (w.heap.size + 1) #[.int .i64 a, .int .i64 b, .int .i64 c]) :=
  ⟨below_setRow h.bel (by omega) _, (setRow_other W (w.heap.size + 1) w.heap.size _ (by omega)).trans h.d, setRow_heap W (w.heap.size + 1) _ _ _ _ h.r⟩
theorem triple_free {w : World} {B : Nat} {y m d : Int} (hr : w.heap[B]? = some (Civ.triple y m d)) (j : Nat) : w.frozen? ⟨B, j, none⟩ = false := by
  unfold Civ.triple at hr
  simp [World.frozen?, hr]
theorem long_in (y m : Int) : 0 ≤ Cal.long y m ∧ Cal.long y m ≤ 31 := by unfold Cal.long; repeat' split <;> omega
def dval3 (y m d : Int) : Value := .agg #[.int .i64 y, .int .i64 m, .int .i64 d]

set_option maxRecDepth 100000 in
set_option maxHeartbeats 2000000 in
theorem tomorrow_any (y m d : Int) (hy : -100000 ≤ y ∧ y ≤ 100000) (hmm : -100000 ≤ m ∧ m ≤ 100000) (hd : -100000 ≤ d ∧ d ≤ 100000) (w : World) :
    Calls Tryd.prog 21 #[.agg #[.int .i64 y, .int .i64 m, .int .i64 d]] w fun e w' => e = .returned (.agg #[.int .i64 (Fire.next y m d).1, .int .i64 (Fire.next y m d).2.1, .int .i64 (Fire.next y m d).2.2]) ∧ Below w.heap.size w w' := by
  have X0 := Lib.hid (DD.start w y m d 0 0 0)
  have HL := Lib.hid (fun W => Civ.refLong_any y m W)
  have hlg := long_in y m
  obtain ⟨lg, hlge⟩ : ∃ lg, lg = Cal.long y m := ⟨_, rfl⟩
  have HN : Hid (Fire.next y m d = if d < lg then (y, m, d + 1) else if m < 12 then (y, m + 1, 1) else (y + 1, 1, 1)) := by rw [hlge]; rfl
  rw [← hlge] at HL hlg
  clear hlge
  generalize Fire.next y m d = nx at *
  obtain ⟨d0, d1, d2⟩ := Civ.triple_cells X0.out.d
  go_enter Tryd.func21, Tryd.ntmps21
  go_wp2_with fail
  generalize ((w.alloc (.cells #[.int .i64 y, .int .i64 m, .int .i64 d] 34)).alloc (.cells #[.int .i64 0, .int .i64 0, .int .i64 0] 34)) = W0 at *
  go_region_held3 (fun w' => w'.cell? ⟨w.heap.size, 0, none⟩ = some (.int .i64 y) ∧ w'.cell? ⟨w.heap.size, 1, none⟩ = some (.int .i64 m) ∧ w'.cell? ⟨w.heap.size, 2, none⟩ = some (.int .i64 d) ∧ Below W0.heap.size W0 w')
    (first
      | exact ⟨d0, d1, d2, (Below.refl _ _).drew⟩
      | go_keep
      | (go_split_ands; exact ⟨stays hb9 (by assumption), stays hb9 (by assumption), stays hb9 (by assumption), Below.trans (by assumption) (hb9.mono (Below.size (by assumption)))⟩))
    (first
      | (go_at_call 38; with_reducible refine (HL.out _).mono ?_; rintro e w9 ⟨rfl, hb9⟩))
  rename_i hHeld
  obtain ⟨_, _, _, hBW⟩ := hHeld
  have X1 := Lib.hid (X0.out.below hBW)
  have r1 := triple_free X1.out.r
  obtain ⟨e0, e1, e2⟩ := Civ.triple_cells X1.out.r
  by_cases h1 : d < lg
  · have hn : nx = (y, m, d + 1) := by rw [HN.out, if_pos h1]
    have g1 := decide_eq_true h1
    subst hn
    clear HN
    go_wp2_with fail
    have o := X1.out.wrote y m (d + 1)
    obtain ⟨q0, q1, q2⟩ := Civ.triple_cells o.r
    exact bodyPost_ret (v := .agg #[.int .i64 (y), .int .i64 (m), .int .i64 (d + 1)]) (by simp [results, Tryd.results21, go_sem, q0, q1, q2]) rfl ⟨by rfl, o.bel⟩
  · by_cases h2 : m < 12
    · have hn : nx = (y, m + 1, 1) := by rw [HN.out, if_neg h1, if_pos h2]
      have g1 := decide_eq_false h1
      have g2 := decide_eq_true h2
      subst hn
      clear HN
      go_wp2_with fail
      have o := X1.out.wrote y (m + 1) 1
      obtain ⟨q0, q1, q2⟩ := Civ.triple_cells o.r
      exact bodyPost_ret (v := .agg #[.int .i64 (y), .int .i64 (m + 1), .int .i64 (1)]) (by simp [results, Tryd.results21, go_sem, q0, q1, q2]) rfl ⟨by rfl, o.bel⟩
    · have hn : nx = (y + 1, 1, 1) := by rw [HN.out, if_neg h1, if_neg h2]
      have g1 := decide_eq_false h1
      have g2 := decide_eq_false h2
      subst hn
      clear HN
      go_wp2_with fail
      have o := X1.out.wrote (y + 1) 1 1
      obtain ⟨q0, q1, q2⟩ := Civ.triple_cells o.r
      exact bodyPost_ret (v := .agg #[.int .i64 (y + 1), .int .i64 (1), .int .i64 (1)]) (by simp [results, Tryd.results21, go_sem, q0, q1, q2]) rfl ⟨by rfl, o.bel⟩

set_option maxRecDepth 100000 in
set_option maxHeartbeats 2000000 in
theorem yesterday_any (y m d : Int) (hy : -100000 ≤ y ∧ y ≤ 100000) (hmm : -100000 ≤ m ∧ m ≤ 100000) (hd : -100000 ≤ d ∧ d ≤ 100000) (w : World) :
    Calls Tryd.prog 24 #[.agg #[.int .i64 y, .int .i64 m, .int .i64 d]] w fun e w' => e = .returned (.agg #[.int .i64 (Fire.prev y m d).1, .int .i64 (Fire.prev y m d).2.1, .int .i64 (Fire.prev y m d).2.2]) ∧ Below w.heap.size w w' := by
  have X0 := Lib.hid (DD.start w y m d 0 0 0)
  have HL := Lib.hid (fun W => Civ.refLong_any y (m - 1) W)
  obtain ⟨lg, hlge⟩ : ∃ lg, lg = Cal.long y (m - 1) := ⟨_, rfl⟩
  have HN : Hid (Fire.prev y m d = if 1 < d then (y, m, d - 1) else if 1 < m then (y, m - 1, lg) else (y - 1, 12, 31)) := by rw [hlge]; rfl
  rw [← hlge] at HL
  clear hlge
  generalize Fire.prev y m d = nx at *
  obtain ⟨d0, d1, d2⟩ := Civ.triple_cells X0.out.d
  obtain ⟨e0, e1, e2⟩ := Civ.triple_cells X0.out.r
  have r1 := triple_free X0.out.r
  go_enter Tryd.func24, Tryd.ntmps24
  by_cases h1 : 1 < d
  · have hn : nx = (y, m, d - 1) := by rw [HN.out, if_pos h1]
    have g1 := decide_eq_true h1
    subst hn
    clear HN
    go_wp2_with fail
    have o := DD.start w y m d y m (d - 1)
    obtain ⟨q0, q1, q2⟩ := Civ.triple_cells o.r
    exact bodyPost_ret (v := .agg #[.int .i64 (y), .int .i64 (m), .int .i64 (d - 1)]) (by simp [results, Tryd.results24, go_sem, q0, q1, q2]) rfl ⟨by rfl, o.bel⟩
  by_cases h2 : 1 < m
  rotate_left
  · have hn : nx = (y - 1, 12, 31) := by rw [HN.out, if_neg h1, if_neg h2]
    have g1 := decide_eq_false h1
    have g2 := decide_eq_false h2
    subst hn
    clear HN
    go_wp2_with fail
    have o := DD.start w y m d (y - 1) 12 31
    obtain ⟨q0, q1, q2⟩ := Civ.triple_cells o.r
    exact bodyPost_ret (v := .agg #[.int .i64 (y - 1), .int .i64 (12), .int .i64 (31)]) (by simp [results, Tryd.results24, go_sem, q0, q1, q2]) rfl ⟨by rfl, o.bel⟩
  have hn : nx = (y, m - 1, lg) := by rw [HN.out, if_neg h1, if_pos h2]
  have g1 := decide_eq_false h1
  have g2 := decide_eq_true h2
  subst hn
  clear HN
  go_wp2_with fail
  generalize ((w.alloc (.cells #[.int .i64 y, .int .i64 m, .int .i64 d] 34)).alloc (.cells #[.int .i64 0, .int .i64 0, .int .i64 0] 34)) = w2 at *
  have hrow := X0.out.d
  have hwr : IntKind.i64.wrap (m - 1) = m - 1 := by rw [IntKind.wrap_i64]; omega
  clear d0 d1 d2 e0 e1 e2 r1
  refine wp_region_held_drew (S := fun W => W.heap[w.heap.size]? = some (Civ.triple y m d)) (by kernel_rfl) hrow (fun hHeld => ?_)
  refine wpAnyH_take (i := 0) (oi := ?_) (v := ?_) ?_ (by kernel_rfl) (by kernel_rfl) (by kernel_rfl) ?_ (Or.inl ⟨?_, ?_⟩) (by assumption) ?_
  rotate_left 2
  focus (simp only [List.getElem?_toArray, List.getElem?_cons_zero]; rfl)
  focus exact fun _ _ _ h => h
  focus rfl
  focus (intro W hS; (try dsimp only at hS); obtain ⟨k0, k1, k2⟩ := Civ.triple_cells hS; go_simp; (try with_reducible rfl))
  try simp only [Act.put]
  try simp only [List.setIfInBounds_toArray]
  try simp only [List.set_cons_succ]
  try simp only [List.set_cons_zero]
  refine wpAnyH_take (i := 1) (oi := ?_) (v := ?_) ?_ (by kernel_rfl) (by kernel_rfl) (by kernel_rfl) ?_ (Or.inl ⟨?_, ?_⟩) (by assumption) ?_
  rotate_left 2
  focus (simp only [List.getElem?_toArray, List.getElem?_cons_succ, List.getElem?_cons_zero]; rfl)
  focus exact fun _ _ _ h => h
  focus rfl
  focus (intro W hS; (try dsimp only at hS); obtain ⟨k0, k1, k2⟩ := Civ.triple_cells hS; go_simp; (try with_reducible rfl))
  try simp only [Act.put]
  try simp only [List.setIfInBounds_toArray]
  try simp only [List.set_cons_succ]
  try simp only [List.set_cons_zero]
  refine wpAnyH_take (i := 2) (oi := ?_) (v := ?_) ?_ (by kernel_rfl) (by kernel_rfl) (by kernel_rfl) ?_ (Or.inl ⟨?_, ?_⟩) (by assumption) ?_
  rotate_left 2
  focus (simp only [List.getElem?_toArray, List.getElem?_cons_succ, List.getElem?_cons_zero]; rfl)
  focus exact fun _ _ _ h => h
  focus rfl
  focus (intro W hS; (try dsimp only at hS); obtain ⟨k0, k1, k2⟩ := Civ.triple_cells hS; go_simp; (try with_reducible rfl))
  try simp only [Act.put]
  try simp only [List.setIfInBounds_toArray]
  try simp only [List.set_cons_succ]
  try simp only [List.set_cons_zero]
  refine wpAnyH_take (i := 3) (oi := ?_) (v := ?_) ?_ (by kernel_rfl) (by kernel_rfl) (by kernel_rfl) ?_ (Or.inl ⟨?_, ?_⟩) (by assumption) ?_
  rotate_left 2
  focus (simp only [List.getElem?_toArray, List.getElem?_cons_succ, List.getElem?_cons_zero]; rfl)
  focus exact fun _ _ _ h => h
  focus rfl
  focus (intro W hS; (try dsimp only at hS); obtain ⟨k0, k1, k2⟩ := Civ.triple_cells hS; go_simp; (try with_reducible rfl))
  try simp only [Act.put]
  try simp only [List.setIfInBounds_toArray]
  try simp only [List.set_cons_succ]
  try simp only [List.set_cons_zero]
  refine wpAnyH_take (i := 4) (oi := ?_) (v := ?_) ?_ (by kernel_rfl) (by kernel_rfl) (by kernel_rfl) ?_ (Or.inl ⟨?_, ?_⟩) (by assumption) ?_
  rotate_left 2
  focus (simp only [List.getElem?_toArray, List.getElem?_cons_succ, List.getElem?_cons_zero]; rfl)
  focus exact fun _ _ _ h => h
  focus rfl
  focus (intro W hS; (try dsimp only at hS); obtain ⟨k0, k1, k2⟩ := Civ.triple_cells hS; go_simp; (try with_reducible rfl))
  try simp only [Act.put]
  try simp only [List.setIfInBounds_toArray]
  try simp only [List.set_cons_succ]
  try simp only [List.set_cons_zero]
  refine wpAnyH_take (i := 5) (oi := ?_) (v := ?_) ?_ (by kernel_rfl) (by kernel_rfl) (by kernel_rfl) ?_ (Or.inl ⟨?_, ?_⟩) (by assumption) ?_
  rotate_left 2
  focus (simp only [List.getElem?_toArray, List.getElem?_cons_succ, List.getElem?_cons_zero]; rfl)
  focus exact fun _ _ _ h => h
  focus rfl
  focus (intro W hS; (try dsimp only at hS); obtain ⟨k0, k1, k2⟩ := Civ.triple_cells hS; go_simp; (try with_reducible rfl))
  try simp only [Act.put]
  try simp only [List.setIfInBounds_toArray]
  try simp only [List.set_cons_succ]
  try simp only [List.set_cons_zero]
  refine wpAnyH_take (i := 6) (oi := ?_) (v := ?_) ?_ (by kernel_rfl) (by kernel_rfl) (by kernel_rfl) ?_ (Or.inl ⟨?_, ?_⟩) (by assumption) ?_
  rotate_left 2
  focus (simp only [List.getElem?_toArray, List.getElem?_cons_succ, List.getElem?_cons_zero]; rfl)
  focus exact fun _ _ _ h => h
  focus rfl
  focus (intro W hS; (try dsimp only at hS); obtain ⟨k0, k1, k2⟩ := Civ.triple_cells hS; go_simp; (try with_reducible rfl))
  try simp only [Act.put]
  try simp only [List.setIfInBounds_toArray]
  try simp only [List.set_cons_succ]
  try simp only [List.set_cons_zero]
  refine wpAnyH_take (i := 7) (oi := ?_) (v := ?_) ?_ (by kernel_rfl) (by kernel_rfl) (by kernel_rfl) ?_ (Or.inl ⟨?_, ?_⟩) (by assumption) ?_
  rotate_left 2
  focus (simp only [List.getElem?_toArray, List.getElem?_cons_succ, List.getElem?_cons_zero]; rfl)
  focus exact fun _ _ _ h => h
  focus rfl
  focus (intro W hS; (try dsimp only at hS); obtain ⟨k0, k1, k2⟩ := Civ.triple_cells hS; go_simp; (try with_reducible rfl))
  try simp only [Act.put]
  try simp only [List.setIfInBounds_toArray]
  try simp only [List.set_cons_succ]
  try simp only [List.set_cons_zero]
  refine wpAnyH_take (i := 8) (oi := ?_) (v := ?_) ?_ (by kernel_rfl) (by kernel_rfl) (by kernel_rfl) ?_ (Or.inl ⟨?_, ?_⟩) (by assumption) ?_
  rotate_left 2
  focus (simp only [List.getElem?_toArray, List.getElem?_cons_succ, List.getElem?_cons_zero]; rfl)
  focus exact fun _ _ _ h => h
  focus rfl
  focus (intro W hS; (try dsimp only at hS); obtain ⟨k0, k1, k2⟩ := Civ.triple_cells hS; go_simp; (try with_reducible rfl))
  try simp only [Act.put]
  try simp only [List.setIfInBounds_toArray]
  try simp only [List.set_cons_succ]
  try simp only [List.set_cons_zero]
  refine wpAnyH_take (i := 9) (oi := ?_) (v := ?_) ?_ (by kernel_rfl) (by kernel_rfl) (by kernel_rfl) ?_ (Or.inl ⟨?_, ?_⟩) (by assumption) ?_
  rotate_left 2
  focus (simp only [List.getElem?_toArray, List.getElem?_cons_succ, List.getElem?_cons_zero]; rfl)
  focus exact fun _ _ _ h => h
  focus rfl
  focus (intro W hS; (try dsimp only at hS); obtain ⟨k0, k1, k2⟩ := Civ.triple_cells hS; go_simp; (try with_reducible rfl))
  try simp only [Act.put]
  try simp only [List.setIfInBounds_toArray]
  try simp only [List.set_cons_succ]
  try simp only [List.set_cons_zero]
  refine wpAnyH_ready (rs := [10]) (by kernel_rfl) (by simp) ?_
  refine AllReadyH.cons (o := ?_) ?_ (fun K hK => ?_) AllReadyH.nil
  rotate_left
  focus (simp only [List.getElem?_toArray, List.getElem?_cons_succ, List.getElem?_cons_zero]; rfl)
  rw [if_pos (by rfl)]
  go_simp

  with_reducible refine (HL.out _).mono ?_
  rintro e w3 ⟨rfl, hb3⟩
  have X1 := Lib.hid (X0.out.drew.below hb3)
  clear hb3 hrow
  go_wp2_with fail
  refine hK.out _ _ X1.out.d (fun hHeld => ?_)
  clear hK K
  try simp only [Act.put]
  try simp only [List.setIfInBounds_toArray]
  try simp only [List.set_cons_succ]
  try simp only [List.set_cons_zero]
  refine wpAnyH_take (i := 11) (oi := ?_) (v := ?_) ?_ (by kernel_rfl) (by kernel_rfl) (by kernel_rfl) ?_ (Or.inl ⟨?_, ?_⟩) (by assumption) ?_
  rotate_left 2
  focus (simp only [List.getElem?_toArray, List.getElem?_cons_succ, List.getElem?_cons_zero]; rfl)
  focus exact fun _ _ _ h => h
  focus rfl
  focus (intro W hS; (try dsimp only at hS); obtain ⟨k0, k1, k2⟩ := Civ.triple_cells hS; go_simp; (try with_reducible rfl))
  try simp only [Act.put]
  try simp only [List.setIfInBounds_toArray]
  try simp only [List.set_cons_succ]
  try simp only [List.set_cons_zero]
  have X2 := X1.out.put y (m - 1) lg
  have ho0 := X1.out.r
  refine wpAnyH_ready (rs := [12]) (by kernel_rfl) (by simp) ?_
  refine AllReadyH.cons (o := ?_) ?_ (fun K hK => ?_) AllReadyH.nil
  rotate_left
  focus (simp only [List.getElem?_toArray, List.getElem?_cons_succ, List.getElem?_cons_zero]; rfl)
  rw [if_pos (by rfl)]
  refine wp_store_row 34 _ _ rfl (w.heap.size + 1) #[.int .i64 y, .int .i64 (m - 1), .int .i64 lg] rfl rfl 34 #[.int .i64 0, .int .i64 0, .int .i64 0] ho0 (by kernel_rfl) rfl (by kernel_rfl) ?_
  refine hK.out _ _ ?_ (fun hHeld => ?_)
  focus exact X2.d
  clear hK K
  try simp only [Act.put]
  try simp only [List.setIfInBounds_toArray]
  try simp only [List.set_cons_succ]
  try simp only [List.set_cons_zero]
  refine wpAnyH_done (by kernel_rfl) ?_ _
  generalize w3.setRow (w.heap.size + 1) #[.int .i64 y, .int .i64 (m - 1), .int .i64 lg] = w4 at *
  go_wp2_with fail
  have o := X2
  obtain ⟨q0, q1, q2⟩ := Civ.triple_cells o.r
  exact bodyPost_ret (v := .agg #[.int .i64 (y), .int .i64 (m - 1), .int .i64 (lg)]) (by simp [results, Tryd.results24, go_sem, q0, q1, q2]) rfl ⟨by rfl, o.bel⟩
end Go.Proofs.YtgcineaodfomeaaDoor
