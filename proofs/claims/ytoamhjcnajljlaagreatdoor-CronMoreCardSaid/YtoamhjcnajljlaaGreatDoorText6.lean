/- field.Text, by its contract. -/
import Derived.Test.YtoamhjcnajljlaaGreatDoorTextN
import Derived.Test.YtoamhjcnajljlaaGreatDoorMay
import Derived.OwnWalk
import Derived.Laws.AppendOwn
import Derived.Laws.OwnMore
import Derived.Maps.AppendAt
import Derived.Deep.LoopGhost
namespace Go.Proofs.YtoamhjcnajljlaaGreatDoor
open Go.RowKit Go.Shelf
attribute [local go_sem] Oper.semAt_some

theorem infoStr : (Tryz.prog.info? 9).map (fun i => (i.zero, i.size, i.bytes)) = some (some (.string ByteArray.empty), 1, 16) := by kernel_rfl
theorem own_same {w w' : World} {B : Nat} {e : TypeId} {size : Nat} {v : Value} {n : Nat} {xs : List Value} (h : w.ownsRow B e size v n xs) (hs : ∀ g cs fr, B ≤ g → w.heap[g]? = some (.cells cs e fr) → w'.heap[g]? = w.heap[g]?) : w'.ownsRow B e size v n xs := by
  refine ⟨h.1, ?_⟩
  rcases h.2 with hn | ⟨g, cap, cur, rfl, hb, hg, rest⟩
  · exact .inl hn
  · exact .inr ⟨g, cap, cur, rfl, hb, (hs g _ _ hb hg).trans hg, rest⟩
def rval (r : Nat × Nat) : Value := .string (ba (Fld.run r.1 r.2))
/-- what lies in memory while a text is made: the field, the runs so far -/
structure TX (w : World) (b : Nat) (star : Bool) (v : Value) (pre : List (Nat × Nat)) (W : World) : Prop where
  bel : Below w.heap.size w W
  box : W.heap[w.heap.size]? = some (fobj b star)
  own : W.ownsRow (w.heap.size + 1) 9 1 v pre.length (pre.map rval)
theorem TX.below {w : World} {b : Nat} {star : Bool} {v : Value} {pre : List (Nat × Nat)} {W W' : World} (t : TX w b star v pre W) (hb : Below W.heap.size W W') : TX w b star v pre W' :=
  ⟨t.bel.trans (hb.mono t.bel.size), (hb.block _ (lt_of_block t.box)).trans t.box, own_same t.own fun g _ _ _ hg => hb.block g (lt_of_block hg)⟩
theorem TX.cells {w : World} {b : Nat} {star : Bool} {v : Value} {pre : List (Nat × Nat)} {W : World} (t : TX w b star v pre W) : W.cell? ⟨w.heap.size, 0, none⟩ = some (.int .u64 (b : Int)) ∧ W.cell? ⟨w.heap.size, 1, none⟩ = some (.bool star) :=
  ⟨cell_of_row _ _ 0 _ _ _ t.box, cell_of_row _ _ 1 _ _ _ t.box⟩

set_option maxRecDepth 100000 in
set_option maxHeartbeats 4000000 in
theorem text_runs (k : Nat) (hk : k ≤ 4) (b : Nat) (hb : b < 2 ^ 64) (star : Bool) (w : World) (hw : TabsOn w) (hm : Fld.may (k : Int) b = true) (hs : ¬ (star = true ∧ b = Fld.all k)) : Calls Tryz.prog 26 #[.int .i64 (k : Int), fval b star] w fun e w' => e = .returned (.string (ba (Fld.body b))) ∧ Below w.heap.size w w' := by
  obtain ⟨i0, hi, hz0, hz1, hz2⟩ := info_parts infoStr
  have o := OwnF.new w b star
  obtain ⟨c0, c1⟩ := o.cells
  have bel := o.bel
  have HM := may_any (k : Int) b hb star _ (hw.next bel)
  rw [hm] at HM
  unfold fval at HM ⊢
  have HM := Lib.hid HM
  have hbx : (w.alloc (.cells #[.int .u64 (b : Int), .bool star] 25)).heap[w.heap.size]? = some (fobj b star) := o.row
  have HBX := Lib.hid hbx
  have HW := Lib.hid hw
  have HB0 : Hid (b ≠ 0) := Lib.hid ((Fld.may_iff hk hb).1 hm).1
  clear o hw hbx hm
  go_enter Tryz.func26, Tryz.ntmps26
  go_wp2_with fail
  with_reducible refine HM.out.mono ?_
  rintro e w1 ⟨rfl, hb1⟩
  have t0 : TX w b star (.slice none 0 0) [] w1 := ⟨bel.trans (hb1.mono bel.size), (hb1.block _ (lt_of_block HBX.out)).trans HBX.out, World.ownsRow_nil _ _ _ _⟩
  clear c0 c1 HM
  obtain ⟨c0, c1⟩ := t0.cells
  have HT0 := Lib.hid t0
  clear t0
  have HALL := Lib.hid (fun n => all_any k hk (w1.drewN n) (HW.out.on (many_drew HT0.out.bel n)))
  have HF0 := Lib.hid (fun W (t : TX w b star (.slice none 0 0) [] W) => first_any b hb star 0 W (HW.out.next t.bel) (by omega))
  have key : ∀ n, TX w b star (.slice none 0 0) [] (w1.drewN n) := fun n => HT0.out.below (many_drew (Below.refl _ _) n)
  have HKEY := Lib.hid key
  clear key
  cases star
  · go_wp2_with fail
    go_quiet (fail)
    have tq := HKEY.out nq
    generalize w1.drewN nq = w2 at tq ⊢
    clear c0 c1
    obtain ⟨c0, c1⟩ := tq.cells
    have HF := Lib.hid (HF0.out _ tq)
    have HTQ := Lib.hid tq
    clear tq HALL HKEY HF0
    go_wp2_with fail
    with_reducible refine HF.out.mono ?_
    rintro e w3 ⟨rfl, hb3⟩
    have t3 := HTQ.out.below hb3
    clear hb3 HF c0 c1
    unfold firstOf
    have HT3 := Lib.hid t3
    clear t3
    go_wp2_with fail
    go_loopg [5, 6, 7] 65 (fun g v x ok wx => ∃ (pre : List (Nat × Nat)) (n : Nat), g = 65 - n ∧ n ≤ 64 ∧ pre.length ≤ n ∧ Fld.Front b pre n ∧ x = .int .i64 (((Fld.first b (n : Int)).getD 0 : Nat) : Int) ∧ ok = .bool (Fld.first b (n : Int)).isSome ∧ TX w b false v pre wx)
    case atStart => exact ⟨[], 0, rfl, by omega, Nat.le_refl _, Fld.Front.start b, rfl, rfl, HT3.out⟩
    case round =>
      obtain ⟨pre, n, hg, hn, hpre, hfr, rfl, rfl, tx⟩ := hrel
      have HTX := Lib.hid tx
      have HFR := Lib.hid hfr
      have HG := Lib.hid hg
      clear tx hfr hg
      cases hf : Fld.first b (n : Int) with
      | none =>
        have hruns := HFR.out.done hf
        have HRUNS := Lib.hid hruns
        have hpne : pre ≠ [] := fun e => Fld.runs_some HB0.out hb (by rw [← e]; exact hruns)
        obtain ⟨g9, cap, hv⟩ : ∃ g9 cap, u5 = .slice (some ⟨g9, 0, none⟩) pre.length cap := by
          rcases HTX.out.own.2 with ⟨_, h0⟩ | ⟨g9, cap, _, hv, _⟩
          · exact absurd (List.eq_nil_of_length_eq_zero h0) hpne
          · exact ⟨g9, cap, hv⟩
        subst hv
        obtain ⟨hbody, hrs⟩ := Fld.body_runs hb hruns
        have HBODY := Lib.hid hbody
        have hlen := Fld.runs_len hruns (fun r hr => ⟨(hrs r hr).1, (hrs r hr).2.1⟩)
        have hown := HTX.out.own
        have hcap : pre.length ≤ cap := by
          rcases hown.2 with ⟨h0, _⟩ | ⟨g8, cap8, cur8, hv8, _, _, h8, _⟩
          · cases h0
          · cases hv8; exact h8
        have hg9 : g9 < wr.heap.size := (hown.lt g9 rfl).2
        have emap : (pre.map fun r => ba (Fld.run r.1 r.2)).map (·.data.toList) = pre.map fun r => Fld.run r.1 r.2 := by rw [List.map_map]; rfl
        have HJ := Tryz.strings_Join g9 0 cap (pre.map fun r => ba (Fld.run r.1 r.2)) ⟨#[44]⟩ wr (fun j x hx => by
          rw [Nat.zero_add, hown.cellAt j (by
            rw [Nat.mul_one]
            have := (List.getElem?_eq_some_iff.1 hx).1
            simpa using this)]
          rw [List.getElem?_map] at hx ⊢
          cases hp : pre[j]? with
          | none => rw [hp] at hx; cases hx
          | some r => rw [hp] at hx; simp at hx; rw [← hx]; rfl) hg9 (by rw [List.length_map]; omega) (by rw [List.length_map]; exact hcap) (by rw [emap]; exact Nat.le_trans hlen (by decide))
        rw [emap, List.length_map] at HJ
        have HJ := Lib.hid HJ
        clear hbody hrs hlen hown hcap hg9 emap hruns
        go_wp2_with fail
        with_reducible refine HJ.out.mono ?_
        rintro e w9 ⟨rfl, hb9⟩
        go_wp2_with fail
        go_ret
        exact ⟨by rw [HBODY.out]; rfl, HTX.out.bel.trans (hb9.mono HTX.out.bel.size)⟩
      | some x =>
        obtain ⟨h64, hnx, hbx, hno⟩ := Fld.first_spec hf
        have HF1 := Lib.hid hf
        have HNO := Lib.hid hno
        have HBX2 := Lib.hid hbx
        clear hf hno hbx
        go_wp2_with fail
        go_loopg [8] (63 - x) (fun g t wx => ∃ y : Nat, g = 63 - y ∧ y < 64 ∧ t = .int .i64 (y : Int) ∧ x ≤ y ∧ (∀ m, x ≤ m → m ≤ y → b.testBit m = true) ∧ TX w b false u5 pre wx)
        case atStart => exact ⟨x, rfl, h64, rfl, Nat.le_refl _, fun m h1 h2 => by obtain rfl : m = x := by omega
                                                                                  exact HBX2.out, HTX.out⟩
        case round =>
          obtain ⟨y, hg2, hy, rfl, hxy, hall, ty⟩ := hrel
          have HH := Lib.hid (has_any b hb false ((y : Int) + 1) wr (by omega))
          have HALL2 := Lib.hid hall
          have HTY := Lib.hid ty
          have HG2 := Lib.hid hg2
          obtain ⟨c0, c1⟩ := ty.cells
          clear hall ty hg2
          cases hv : Fld.has b ((y : Int) + 1)
          · have HV := Lib.hid hv
            go_wp2_with fail
            with_reducible refine HH.out.mono ?_
            rintro e w4 ⟨rfl, hb4⟩
            rw [HV.out]
            have ty4 := HTY.out.below hb4
            have HT4 := Lib.hid ty4
            obtain ⟨d0, d1⟩ := ty4.cells
            clear hv ty4 hb4 c0 c1
            go_wp2_with fail
            with_reducible refine (run_any x y hxy hy _).mono ?_
            rintro e w5 ⟨rfl, rfl⟩
            have hsz4 := HT4.out.bel.size
            have hsz5 := lt_of_block HT4.out.box
            go_wp2_with (at_builtin; refine wpList_append_own _ rfl _ _ 45 rfl (w.heap.size + 1) 9 i0 (.string ByteArray.empty) 1 16 Tryz.underlying45 hi hz0 hz1 hz2 rfl (by decide) u5 _ _ rfl (HT4.out.own.alloc _) ⟨w4.heap.size, 0, none⟩ 1 1 [.string (ba (Fld.run x y))] rfl rfl (cell_one_new _ _ _) (by simp [Value.oneCell']) (by unfold maxLen; omega) (by omega) (by simp; omega) ?_)
            intro v' w6 hown' hgrow _
            have t6 : TX w b false v' (pre ++ [(x, y)]) w6 := by
              refine ⟨(HT4.out.bel.alloc HT4.out.bel.size _).grown hgrow (by simp; omega) (fun k9 hk9 => by have := (HT4.out.own.lt k9 hk9).1; omega), ?_, ?_⟩
              · rw [hgrow.block w.heap.size (by simp; omega) (fun e => by have := (HT4.out.own.lt w.heap.size e.symm).1; omega), Below.heap_alloc _ _ _ hsz5]
                exact HT4.out.box
              · rw [List.length_append, List.map_append]
                exact hown'
            have HT6 := Lib.hid t6
            obtain ⟨a0, a1⟩ := t6.cells
            have HFN := Lib.hid (first_any b hb false ((y : Int) + 1) w6 (HW.out.next t6.bel) (by omega))
            have HEND : Hid (b.testBit (y + 1) = false) := Lib.hid (by rw [← Fld.has_nat hb]; exact HV.out)
            have HFM := Lib.hid (HFR.out.more HF1.out hxy HALL2.out HEND.out)
            clear hown' hgrow t6 d0 d1 HH
            go_wp2_with fail
            with_reducible refine HFN.out.mono ?_
            rintro e w7 ⟨rfl, hb7⟩
            have HT7 := Lib.hid (HT6.out.below hb7)
            have hnx2 : n ≤ x := by omega
            unfold firstOf
            clear a0 a1 hb7
            go_wp2_with fail
            go_roundg (65 - (y + 1))
            case measure => have := HG.out; omega
            case rel => exact ⟨pre ++ [(x, y)], y + 1, rfl, by omega, by rw [List.length_append, List.length_cons, List.length_nil]; omega, HFM.out, rfl, rfl, HT7.out⟩
          · have hv2 := hv
            rw [show (y : Int) + 1 = ((y + 1 : Nat) : Int) by omega, Fld.has_nat hb] at hv2
            have HV := Lib.hid hv
            have HV2 := Lib.hid hv2
            have hy1 : y + 1 < 64 := by
              rcases Nat.lt_or_ge (y + 1) 64 with h | h
              · exact h
              · rw [Nat.testBit_lt_two_pow (Nat.lt_of_lt_of_le hb (Nat.pow_le_pow_right (n := 2) (by decide) h))] at hv2; simp at hv2
            go_wp2_with fail
            with_reducible refine HH.out.mono ?_
            rintro e w4 ⟨rfl, hb4⟩
            rw [HV.out]
            have HT4 := Lib.hid (HTY.out.below hb4)
            clear hv hv2 hb4 c0 c1
            go_wp2_with fail
            go_roundg (63 - (y + 1))
            case measure => have := HG2.out; omega
            case rel => exact ⟨y + 1, rfl, hy1, by go_num, by omega, fun m h1 h2 => by
              rcases Nat.lt_or_ge m (y + 1) with h3 | h3
              · exact HALL2.out m h1 (by omega)
              · obtain rfl : m = y + 1 := by omega
                exact HV2.out, HT4.out⟩
  · have hne : b ≠ Fld.all k := fun h => hs ⟨rfl, h⟩
    have g0 : ((b : Int) == (Fld.all k : Int)) = false := by rw [beq_eq_false_iff_ne]; omega
    generalize Fld.all k = AL at *
    go_wp2_with fail
    go_quiet ((go_at_call 43; exact Calls.quiet_of (HALL.out _)))
    have tq := HKEY.out nq
    generalize w1.drewN nq = w2 at tq ⊢
    clear c0 c1
    obtain ⟨c0, c1⟩ := tq.cells
    have HF := Lib.hid (HF0.out _ tq)
    have HTQ := Lib.hid tq
    clear tq HALL HKEY HF0
    go_wp2_with fail
    with_reducible refine HF.out.mono ?_
    rintro e w3 ⟨rfl, hb3⟩
    have t3 := HTQ.out.below hb3
    clear hb3 HF c0 c1
    unfold firstOf
    have HT3 := Lib.hid t3
    clear t3
    go_wp2_with fail
    go_loopg [5, 6, 7] 65 (fun g v x ok wx => ∃ (pre : List (Nat × Nat)) (n : Nat), g = 65 - n ∧ n ≤ 64 ∧ pre.length ≤ n ∧ Fld.Front b pre n ∧ x = .int .i64 (((Fld.first b (n : Int)).getD 0 : Nat) : Int) ∧ ok = .bool (Fld.first b (n : Int)).isSome ∧ TX w b true v pre wx)
    case atStart => exact ⟨[], 0, rfl, by omega, Nat.le_refl _, Fld.Front.start b, rfl, rfl, HT3.out⟩
    case round =>
      obtain ⟨pre, n, hg, hn, hpre, hfr, rfl, rfl, tx⟩ := hrel
      have HTX := Lib.hid tx
      have HFR := Lib.hid hfr
      have HG := Lib.hid hg
      clear tx hfr hg
      cases hf : Fld.first b (n : Int) with
      | none =>
        have hruns := HFR.out.done hf
        have HRUNS := Lib.hid hruns
        have hpne : pre ≠ [] := fun e => Fld.runs_some HB0.out hb (by rw [← e]; exact hruns)
        obtain ⟨g9, cap, hv⟩ : ∃ g9 cap, u5 = .slice (some ⟨g9, 0, none⟩) pre.length cap := by
          rcases HTX.out.own.2 with ⟨_, h0⟩ | ⟨g9, cap, _, hv, _⟩
          · exact absurd (List.eq_nil_of_length_eq_zero h0) hpne
          · exact ⟨g9, cap, hv⟩
        subst hv
        obtain ⟨hbody, hrs⟩ := Fld.body_runs hb hruns
        have HBODY := Lib.hid hbody
        have hlen := Fld.runs_len hruns (fun r hr => ⟨(hrs r hr).1, (hrs r hr).2.1⟩)
        have hown := HTX.out.own
        have hcap : pre.length ≤ cap := by
          rcases hown.2 with ⟨h0, _⟩ | ⟨g8, cap8, cur8, hv8, _, _, h8, _⟩
          · cases h0
          · cases hv8; exact h8
        have hg9 : g9 < wr.heap.size := (hown.lt g9 rfl).2
        have emap : (pre.map fun r => ba (Fld.run r.1 r.2)).map (·.data.toList) = pre.map fun r => Fld.run r.1 r.2 := by rw [List.map_map]; rfl
        have HJ := Tryz.strings_Join g9 0 cap (pre.map fun r => ba (Fld.run r.1 r.2)) ⟨#[44]⟩ wr (fun j x hx => by
          rw [Nat.zero_add, hown.cellAt j (by
            rw [Nat.mul_one]
            have := (List.getElem?_eq_some_iff.1 hx).1
            simpa using this)]
          rw [List.getElem?_map] at hx ⊢
          cases hp : pre[j]? with
          | none => rw [hp] at hx; cases hx
          | some r => rw [hp] at hx; simp at hx; rw [← hx]; rfl) hg9 (by rw [List.length_map]; omega) (by rw [List.length_map]; exact hcap) (by rw [emap]; exact Nat.le_trans hlen (by decide))
        rw [emap, List.length_map] at HJ
        have HJ := Lib.hid HJ
        clear hbody hrs hlen hown hcap hg9 emap hruns
        go_wp2_with fail
        with_reducible refine HJ.out.mono ?_
        rintro e w9 ⟨rfl, hb9⟩
        go_wp2_with fail
        go_ret
        exact ⟨by rw [HBODY.out]; rfl, HTX.out.bel.trans (hb9.mono HTX.out.bel.size)⟩
      | some x =>
        obtain ⟨h64, hnx, hbx, hno⟩ := Fld.first_spec hf
        have HF1 := Lib.hid hf
        have HNO := Lib.hid hno
        have HBX2 := Lib.hid hbx
        clear hf hno hbx
        go_wp2_with fail
        go_loopg [8] (63 - x) (fun g t wx => ∃ y : Nat, g = 63 - y ∧ y < 64 ∧ t = .int .i64 (y : Int) ∧ x ≤ y ∧ (∀ m, x ≤ m → m ≤ y → b.testBit m = true) ∧ TX w b true u5 pre wx)
        case atStart => exact ⟨x, rfl, h64, rfl, Nat.le_refl _, fun m h1 h2 => by obtain rfl : m = x := by omega
                                                                                  exact HBX2.out, HTX.out⟩
        case round =>
          obtain ⟨y, hg2, hy, rfl, hxy, hall, ty⟩ := hrel
          have HH := Lib.hid (has_any b hb true ((y : Int) + 1) wr (by omega))
          have HALL2 := Lib.hid hall
          have HTY := Lib.hid ty
          have HG2 := Lib.hid hg2
          obtain ⟨c0, c1⟩ := ty.cells
          clear hall ty hg2
          cases hv : Fld.has b ((y : Int) + 1)
          · have HV := Lib.hid hv
            go_wp2_with fail
            with_reducible refine HH.out.mono ?_
            rintro e w4 ⟨rfl, hb4⟩
            rw [HV.out]
            have ty4 := HTY.out.below hb4
            have HT4 := Lib.hid ty4
            obtain ⟨d0, d1⟩ := ty4.cells
            clear hv ty4 hb4 c0 c1
            go_wp2_with fail
            with_reducible refine (run_any x y hxy hy _).mono ?_
            rintro e w5 ⟨rfl, rfl⟩
            have hsz4 := HT4.out.bel.size
            have hsz5 := lt_of_block HT4.out.box
            go_wp2_with (at_builtin; refine wpList_append_own _ rfl _ _ 45 rfl (w.heap.size + 1) 9 i0 (.string ByteArray.empty) 1 16 Tryz.underlying45 hi hz0 hz1 hz2 rfl (by decide) u5 _ _ rfl (HT4.out.own.alloc _) ⟨w4.heap.size, 0, none⟩ 1 1 [.string (ba (Fld.run x y))] rfl rfl (cell_one_new _ _ _) (by simp [Value.oneCell']) (by unfold maxLen; omega) (by omega) (by simp; omega) ?_)
            intro v' w6 hown' hgrow _
            have t6 : TX w b true v' (pre ++ [(x, y)]) w6 := by
              refine ⟨(HT4.out.bel.alloc HT4.out.bel.size _).grown hgrow (by simp; omega) (fun k9 hk9 => by have := (HT4.out.own.lt k9 hk9).1; omega), ?_, ?_⟩
              · rw [hgrow.block w.heap.size (by simp; omega) (fun e => by have := (HT4.out.own.lt w.heap.size e.symm).1; omega), Below.heap_alloc _ _ _ hsz5]
                exact HT4.out.box
              · rw [List.length_append, List.map_append]
                exact hown'
            have HT6 := Lib.hid t6
            obtain ⟨a0, a1⟩ := t6.cells
            have HFN := Lib.hid (first_any b hb true ((y : Int) + 1) w6 (HW.out.next t6.bel) (by omega))
            have HEND : Hid (b.testBit (y + 1) = false) := Lib.hid (by rw [← Fld.has_nat hb]; exact HV.out)
            have HFM := Lib.hid (HFR.out.more HF1.out hxy HALL2.out HEND.out)
            clear hown' hgrow t6 d0 d1 HH
            go_wp2_with fail
            with_reducible refine HFN.out.mono ?_
            rintro e w7 ⟨rfl, hb7⟩
            have HT7 := Lib.hid (HT6.out.below hb7)
            have hnx2 : n ≤ x := by omega
            unfold firstOf
            clear a0 a1 hb7
            go_wp2_with fail
            go_roundg (65 - (y + 1))
            case measure => have := HG.out; omega
            case rel => exact ⟨pre ++ [(x, y)], y + 1, rfl, by omega, by rw [List.length_append, List.length_cons, List.length_nil]; omega, HFM.out, rfl, rfl, HT7.out⟩
          · have hv2 := hv
            rw [show (y : Int) + 1 = ((y + 1 : Nat) : Int) by omega, Fld.has_nat hb] at hv2
            have HV := Lib.hid hv
            have HV2 := Lib.hid hv2
            have hy1 : y + 1 < 64 := by
              rcases Nat.lt_or_ge (y + 1) 64 with h | h
              · exact h
              · rw [Nat.testBit_lt_two_pow (Nat.lt_of_lt_of_le hb (Nat.pow_le_pow_right (n := 2) (by decide) h))] at hv2; simp at hv2
            go_wp2_with fail
            with_reducible refine HH.out.mono ?_
            rintro e w4 ⟨rfl, hb4⟩
            rw [HV.out]
            have HT4 := Lib.hid (HTY.out.below hb4)
            clear hv hv2 hb4 c0 c1
            go_wp2_with fail
            go_roundg (63 - (y + 1))
            case measure => have := HG2.out; omega
            case rel => exact ⟨y + 1, rfl, hy1, by go_num, by omega, fun m h1 h2 => by
              rcases Nat.lt_or_ge m (y + 1) with h3 | h3
              · exact HALL2.out m h1 (by omega)
              · obtain rfl : m = y + 1 := by omega
                exact HV2.out, HT4.out⟩
end Go.Proofs.YtoamhjcnajljlaaGreatDoor
