/- ringerref06.item of '*' and of one or two digits, by its contract. -/
import Derived.Test.YtgcineaodfomeaaDoorRefNum
import Derived.Test.YtgcineaodfomeaaDoorRefAsk
namespace Go.Proofs.YtgcineaodfomeaaDoor
open Go.RowKit Go.Shelf
attribute [local go_sem] Oper.semAt_some

theorem infoInt : (Tryd.prog.info? 3).map (fun i => (i.zero, i.size, i.bytes)) = some (some (.int .i64 0), 1, 8) := by kernel_rfl
def num1 (n : Nat) : Value := .int .i64 (n : Int)
/-- a row of numbers that a call made -/
structure RowN (w : World) (v : Value) (xs : List Nat) (W : World) : Prop where
  bel : Below w.heap.size w W
  own : W.ownsRow w.heap.size 3 1 v xs.length (xs.map num1)
theorem RowN.below {w : World} {v : Value} {xs : List Nat} {W W' : World} (t : RowN w v xs W) (hb : Below W.heap.size W W') : RowN w v xs W' :=
  ⟨t.bel.trans (hb.mono t.bel.size), own_same t.own fun g _ _ _ hg => hb.block g (lt_of_block hg)⟩
theorem RowN.start {w W : World} (h : Below w.heap.size w W) : RowN w (.slice none 0 0) [] W := ⟨h, World.ownsRow_nil _ _ _ _⟩
theorem RowN.some {w : World} {v : Value} {xs : List Nat} {W : World} (t : RowN w v xs W) (h : xs ≠ []) : ∃ g cap, v = .slice (.some ⟨g, 0, none⟩) xs.length cap ∧ xs.length ≤ cap ∧ (w.heap.size ≤ g ∧ g < W.heap.size) ∧ ∀ (i : Nat) x, xs[i]? = .some x → W.cell? ⟨g, i, none⟩ = .some (.int .i64 (x : Int)) := by
  have hown := t.own
  obtain ⟨g9, cap, hv, hcap⟩ : ∃ g9 cap, v = .slice (.some ⟨g9, 0, none⟩) xs.length cap ∧ xs.length ≤ cap := by
    rcases hown.2 with ⟨_, h0⟩ | ⟨g9, cap, _, hv, _, _, h8, _⟩
    · exact absurd (List.eq_nil_of_length_eq_zero h0) h
    · exact ⟨g9, cap, hv, h8⟩
  subst hv
  refine ⟨g9, cap, rfl, hcap, hown.lt g9 rfl, fun i x hx => ?_⟩
  have hi := (List.getElem?_eq_some_iff.1 hx).1
  rw [hown.cellAt i (by rw [Nat.mul_one]; exact hi), List.getElem?_map, hx]
  rfl
/-- the numbers from f on -/
def upFrom (f n : Nat) : List Nat := (List.range n).map (fun j => f + j)
theorem upFrom_len (f n : Nat) : (upFrom f n).length = n := by simp [upFrom]
theorem upFrom_next (f n : Nat) : upFrom f (n + 1) = upFrom f n ++ [f + n] := by simp [upFrom, List.range_succ]

set_option maxRecDepth 100000 in
set_option maxHeartbeats 4000000 in
theorem ritem_star (k : Nat) (hk : k ≤ 4) (w : World) : Calls Tryd.prog 53 #[.int .i64 (k : Int), .string (ba [42])] w fun e w' => ∃ v, e = .returned (.tuple #[v, .int .i64 0]) ∧ RowN w v (upFrom (Fld.lo k) (Fld.hi k + 1 - Fld.lo k)) w' := by
  obtain ⟨i0, hi0, hz0, hz1, hz2⟩ := info_parts infoInt
  have SP := Lib.hid (rsplit_any [42] (by decide) 47 47 rfl w)
  have ecut : Lib.split [42] [47] = [[42]] := cut_one _ _ (by decide)
  have HLO := Lib.hid (fun W => refLow_any k hk W)
  have HHI := Lib.hid (fun W => refHigh_any k hk W)
  have hle := Fld.hi_le hk
  generalize Fld.lo k = lo at *
  generalize Fld.hi k = hh at *
  go_enter Tryd.func53, Tryd.ntmps53
  go_wp2_with fail
  with_reducible refine SP.out.mono ?_
  rintro e w1 ⟨v, rfl, hrow⟩
  rw [ecut] at hrow
  obtain ⟨g, cap, rfl, hcap, hg, hcell⟩ := hrow.some (by simp)
  have cg : w1.cell? ⟨g, 0, none⟩ = some (.string (ba [42])) := hcell 0 _ rfl
  have hb1 := Lib.hid hrow.bel
  have hcap1 : 1 ≤ cap := hcap
  clear hrow hcell hcap SP
  have g0 : ((ba [42]).toList == [42]) = true := by rw [Lib.toList_data]; rfl
  go_wp2_with fail
  with_reducible refine (HLO.out _).mono ?_
  rintro e w2 ⟨rfl, hb2⟩
  have cg2 := stays hb2 cg
  have HB2 := Lib.hid (hb1.out.trans (hb2.mono hb1.out.size))
  clear hb2 cg HLO
  go_wp2_with fail
  with_reducible refine (HHI.out _).mono ?_
  rintro e w3 ⟨rfl, hb3⟩
  have cg3 := stays hb3 cg2
  have HB3 := Lib.hid (HB2.out.trans (hb3.mono HB2.out.size))
  clear hb3 cg2 HHI
  go_wp2_with fail
  go_loopg [12, 13] (hh + 1 - lo) (fun g v tn wx => ∃ n : Nat, n + g = hh + 1 ∧ lo ≤ n ∧ tn = .int .i64 (n : Int) ∧ RowN w v (upFrom lo (n - lo)) wx)
  case atStart => exact ⟨lo, by omega, by omega, rfl, by
    have e : lo - lo = 0 := Nat.sub_self _
    rw [e]
    exact RowN.start HB3.out⟩
  case round =>
    obtain ⟨n, hng, hfn, rfl, rt⟩ := hrel
    have HRT := Lib.hid rt
    clear rt
    cases gk with
    | zero =>
      obtain rfl : n = hh + 1 := by omega
      have hgt : ¬ (((hh + 1 : Nat) : Int) ≤ (hh : Int)) := by omega
      go_wp2_with fail
      go_ret2
      exact ⟨_, rfl, HRT.out⟩
    | succ g =>
      have hlt : (n : Int) ≤ (hh : Int) := by omega
      have hszw := HRT.out.bel.size
      have hlen := upFrom_len lo (n - lo)
      go_wp2_with (at_builtin; refine wpList_append_own _ rfl _ _ 78 rfl w.heap.size 3 i0 (.int .i64 0) 1 8 Tryd.underlying78 hi0 hz0 hz1 hz2 rfl (by decide) u12 _ _ rfl (HRT.out.own.alloc _) ⟨wr.heap.size, 0, none⟩ 1 1 [.int .i64 (n : Int)] rfl rfl (cell_one_new _ _ _) (by simp [Value.oneCell']) (by unfold maxLen; omega) (by omega) (by simp; omega) ?_)
      intro v' w6 hown' hgrow _
      have t6 : RowN w v' (upFrom lo (n + 1 - lo)) w6 := by
        rw [show n + 1 - lo = (n - lo) + 1 by omega, upFrom_next, show lo + (n - lo) = n by omega]
        refine ⟨(HRT.out.bel.alloc HRT.out.bel.size _).grown hgrow (by simp; omega) (fun k9 hk9 => by have := (HRT.out.own.lt k9 hk9).1; omega), ?_⟩
        rw [List.map_append, List.length_append, upFrom_len]
        exact hown'
      have HT6 := Lib.hid t6
      clear hown' hgrow t6 hlen
      go_wp2_with fail
      go_roundg g
      case measure => omega
      case rel => exact ⟨n + 1, by omega, by omega, by go_num, HT6.out⟩

set_option maxRecDepth 100000 in
set_option maxHeartbeats 4000000 in
theorem ritem_num (k : Nat) (hk : k ≤ 4) (l : List UInt8) (hd : Fld.digits l) (hin : Fld.lo k ≤ Fld.dval l ∧ Fld.dval l ≤ Fld.top k) (w : World) : Calls Tryd.prog 53 #[.int .i64 (k : Int), .string (ba l)] w fun e w' => ∃ v, e = .returned (.tuple #[v, .int .i64 0]) ∧ RowN w v [Fld.dval l] w' := by
  obtain ⟨i0, hi0, hz0, hz1, hz2⟩ := info_parts infoInt
  have h47 : (47 : UInt8) ∉ l := fun h => by have := hd.2 47 h; simp at this
  have h45 : (45 : UInt8) ∉ l := fun h => by have := hd.2 45 h; simp at this
  have hlen : l.length ≤ 1000 := by rcases hd.1 with h | h <;> omega
  have SP := Lib.hid (rsplit_any l hlen 47 47 rfl w)
  have SP2 := Lib.hid (fun W => rsplit_any l hlen 45 45 rfl W)
  have ecut : Lib.split l [47] = [l] := cut_one _ _ h47
  have ecut2 : Lib.split l [45] = [l] := cut_one _ _ h45
  have hne : ((ba l).toList == [42]) = false := by
    rw [Lib.toList_data, beq_eq_false_iff_ne]
    intro h
    have h' : l = [42] := h
    have := hd.2 42 (by rw [h']; simp)
    simp at this
  have RN := Lib.hid (fun W => rnum_any (k : Int) l hd W)
  have HLO := Lib.hid (fun W => refLow_any k hk W)
  have HHI := Lib.hid (fun W => refHigh_any k hk W)
  have hle := Fld.hi_le hk
  have hv := Fld.dval_lt hd l.length (Nat.le_refl _)
  rw [List.take_length] at hv
  have T4 : k = 4 → Fld.top k = 7 := top_four
  have T5 : k ≠ 4 → Fld.top k = Fld.hi k := top_else
  generalize Fld.dval l = n9 at *
  generalize Fld.lo k = lo at *
  generalize Fld.hi k = hi at *
  generalize Fld.top k = tp at *
  clear hd h47 h45
  go_enter Tryd.func53, Tryd.ntmps53
  go_wp2_with fail
  with_reducible refine SP.out.mono ?_
  rintro e w1 ⟨v, rfl, hrow⟩
  rw [ecut] at hrow
  obtain ⟨g, cap, rfl, hcap, hg, hcell⟩ := hrow.some (by simp)
  have cg : w1.cell? ⟨g, 0, none⟩ = some (.string (ba l)) := hcell 0 _ rfl
  have HB1 := Lib.hid hrow.bel
  have hcap1 : 1 ≤ cap := hcap
  clear hrow hcell hcap SP
  go_wp2_with fail
  with_reducible refine (HLO.out _).mono ?_
  rintro e w2 ⟨rfl, hb2⟩
  have cg2 := stays hb2 cg
  have HB2 := Lib.hid (HB1.out.trans (hb2.mono HB1.out.size))
  clear hb2 cg
  go_wp2_with fail
  with_reducible refine (HHI.out _).mono ?_
  rintro e w3 ⟨rfl, hb3⟩
  have cg3 := stays hb3 cg2
  have HB3 := Lib.hid (HB2.out.trans (hb3.mono HB2.out.size))
  clear hb3 cg2
  go_wp2_with fail
  with_reducible refine (SP2.out _).mono ?_
  rintro e w4 ⟨v4, rfl, hrow⟩
  rw [ecut2] at hrow
  obtain ⟨g4, cap4, rfl, hcap, hg4, hcell⟩ := hrow.some (by simp)
  have ce : w4.cell? ⟨g4, 0, none⟩ = some (.string (ba l)) := hcell 0 _ rfl
  have HB4 := Lib.hid (HB3.out.trans (hrow.bel.mono HB3.out.size))
  have hcap4 : 1 ≤ cap4 := hcap
  clear hrow hcell hcap SP2 cg3
  go_wp2_with fail
  with_reducible refine (RN.out _).mono ?_
  rintro e w5 ⟨rfl, rfl⟩
  go_wp2_with fail
  with_reducible refine (RN.out _).mono ?_
  rintro e w5 ⟨rfl, rfl⟩
  clear RN ce
  have hn0 : ¬ ((n9 : Int) < 0) := by omega
  go_wp2_with fail
  with_reducible refine (HHI.out _).mono ?_
  rintro e w6 ⟨rfl, hb6⟩
  have HB6 := Lib.hid (HB4.out.trans (hb6.mono HB4.out.size))
  clear hb6 HHI
  have q0 : decide (n9 < lo) = false := by simp; omega
  by_cases h4 : k = 4
  · have g4 : ((k : Int) == 4) = true := by simp; omega
    obtain rfl : tp = 7 := T4 h4
    have q1 : decide ((7 : Int) < (n9 : Int)) = false := by simp; omega
    clear T4 T5 h4
    go_wp2_with fail
    with_reducible refine (HLO.out _).mono ?_
    rintro e w7 ⟨rfl, hb7⟩
    have HB7 := Lib.hid (HB6.out.trans (hb7.mono HB6.out.size))
    clear hb7 HLO
    go_wp2_with fail
    go_loopg [12, 13] (n9 + 1 - n9) (fun g v tn wx => ∃ n : Nat, n + g = n9 + 1 ∧ n9 ≤ n ∧ tn = .int .i64 (n : Int) ∧ RowN w v (upFrom n9 (n - n9)) wx)
    case atStart => exact ⟨n9, by omega, by omega, rfl, by
      have e : n9 - n9 = 0 := Nat.sub_self _
      rw [e]
      exact RowN.start HB7.out⟩
    case round =>
      obtain ⟨n, hng, hfn, rfl, rt⟩ := hrel
      have HRT := Lib.hid rt
      clear rt
      cases gk with
      | zero =>
        obtain rfl : n = n9 + 1 := by omega
        have hgt : ¬ (((n9 + 1 : Nat) : Int) ≤ (n9 : Int)) := by omega
        go_wp2_with fail
        go_ret2
        have hrow := HRT.out
        rw [show n9 + 1 - n9 = 1 by omega, show upFrom n9 1 = [n9] by simp [upFrom]] at hrow
        exact ⟨_, rfl, hrow⟩
      | succ g =>
        have hlt : (n : Int) ≤ (n9 : Int) := by omega
        have hszw := HRT.out.bel.size
        have hlen := upFrom_len n9 (n - n9)
        go_wp2_with (at_builtin; refine wpList_append_own _ rfl _ _ 78 rfl w.heap.size 3 i0 (.int .i64 0) 1 8 Tryd.underlying78 hi0 hz0 hz1 hz2 rfl (by decide) u12 _ _ rfl (HRT.out.own.alloc _) ⟨wr.heap.size, 0, none⟩ 1 1 [.int .i64 (n : Int)] rfl rfl (cell_one_new _ _ _) (by simp [Value.oneCell']) (by unfold maxLen; omega) (by omega) (by simp; omega) ?_)
        intro v' w6 hown' hgrow _
        have t6 : RowN w v' (upFrom n9 (n + 1 - n9)) w6 := by
          rw [show n + 1 - n9 = (n - n9) + 1 by omega, upFrom_next, show n9 + (n - n9) = n by omega]
          refine ⟨(HRT.out.bel.alloc HRT.out.bel.size _).grown hgrow (by simp; omega) (fun k9 hk9 => by have := (HRT.out.own.lt k9 hk9).1; omega), ?_⟩
          rw [List.map_append, List.length_append, upFrom_len]
          exact hown'
        have HT6 := Lib.hid t6
        clear hown' hgrow t6 hlen
        go_wp2_with fail
        go_roundg g
        case measure => omega
        case rel => exact ⟨n + 1, by omega, by omega, by go_num, HT6.out⟩
  · have g4 : ((k : Int) == 4) = false := by simp; omega
    obtain rfl : tp = hi := T5 h4
    have q1 : decide (tp < n9) = false := by simp; omega
    clear T4 T5 h4
    go_wp2_with fail
    with_reducible refine (HLO.out _).mono ?_
    rintro e w7 ⟨rfl, hb7⟩
    have HB7 := Lib.hid (HB6.out.trans (hb7.mono HB6.out.size))
    clear hb7 HLO
    go_wp2_with fail
    go_loopg [12, 13] (n9 + 1 - n9) (fun g v tn wx => ∃ n : Nat, n + g = n9 + 1 ∧ n9 ≤ n ∧ tn = .int .i64 (n : Int) ∧ RowN w v (upFrom n9 (n - n9)) wx)
    case atStart => exact ⟨n9, by omega, by omega, rfl, by
      have e : n9 - n9 = 0 := Nat.sub_self _
      rw [e]
      exact RowN.start HB7.out⟩
    case round =>
      obtain ⟨n, hng, hfn, rfl, rt⟩ := hrel
      have HRT := Lib.hid rt
      clear rt
      cases gk with
      | zero =>
        obtain rfl : n = n9 + 1 := by omega
        have hgt : ¬ (((n9 + 1 : Nat) : Int) ≤ (n9 : Int)) := by omega
        go_wp2_with fail
        go_ret2
        have hrow := HRT.out
        rw [show n9 + 1 - n9 = 1 by omega, show upFrom n9 1 = [n9] by simp [upFrom]] at hrow
        exact ⟨_, rfl, hrow⟩
      | succ g =>
        have hlt : (n : Int) ≤ (n9 : Int) := by omega
        have hszw := HRT.out.bel.size
        have hlen := upFrom_len n9 (n - n9)
        go_wp2_with (at_builtin; refine wpList_append_own _ rfl _ _ 78 rfl w.heap.size 3 i0 (.int .i64 0) 1 8 Tryd.underlying78 hi0 hz0 hz1 hz2 rfl (by decide) u12 _ _ rfl (HRT.out.own.alloc _) ⟨wr.heap.size, 0, none⟩ 1 1 [.int .i64 (n : Int)] rfl rfl (cell_one_new _ _ _) (by simp [Value.oneCell']) (by unfold maxLen; omega) (by omega) (by simp; omega) ?_)
        intro v' w6 hown' hgrow _
        have t6 : RowN w v' (upFrom n9 (n + 1 - n9)) w6 := by
          rw [show n + 1 - n9 = (n - n9) + 1 by omega, upFrom_next, show n9 + (n - n9) = n by omega]
          refine ⟨(HRT.out.bel.alloc HRT.out.bel.size _).grown hgrow (by simp; omega) (fun k9 hk9 => by have := (HRT.out.own.lt k9 hk9).1; omega), ?_⟩
          rw [List.map_append, List.length_append, upFrom_len]
          exact hown'
        have HT6 := Lib.hid t6
        clear hown' hgrow t6 hlen
        go_wp2_with fail
        go_roundg g
        case measure => omega
        case rel => exact ⟨n + 1, by omega, by omega, by go_num, HT6.out⟩
end Go.Proofs.YtgcineaodfomeaaDoor
