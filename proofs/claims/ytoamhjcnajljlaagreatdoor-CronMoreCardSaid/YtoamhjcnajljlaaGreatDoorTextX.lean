/- cron.Text and the reference's, by their contracts. -/
import Derived.Test.YtoamhjcnajljlaaGreatDoorAskX
import Derived.Test.YtoamhjcnajljlaaGreatDoorBackM
namespace Go.Proofs.YtoamhjcnajljlaaGreatDoor
open Go.RowKit Go.Shelf
attribute [local go_sem] Oper.semAt_some

namespace Cron
theorem join_five (b : Nat → Nat) (s : Nat → Bool) : Lib.join ((List.range 5).map fun (k : Nat) => Fld.text (k : Int) (b k) (s k)) [32] = upto b s 4 := by
  show Lib.join [Fld.text 0 (b 0) (s 0), Fld.text 1 (b 1) (s 1), Fld.text 2 (b 2) (s 2), Fld.text 3 (b 3) (s 3), Fld.text 4 (b 4) (s 4)] [32] = _
  simp [Lib.join_cons, Lib.joinTail, upto]
theorem upto_len {b : Nat → Nat} (s : Nat → Bool) (hb : ∀ k, k < 5 → b k < 2 ^ 64) (hm : may b = true) : (upto b s 4).length ≤ 754 := by
  have h := fun k (hk : k < 5) => (Fld.back (s k) (by omega) (hb k hk) (may_iff.1 hm k hk)).1
  have h0 := h 0 (by decide)
  have h1 := h 1 (by decide)
  have h2 := h 2 (by decide)
  have h3 := h 3 (by decide)
  have h4 := h 4 (by decide)
  simp only [upto, List.length_append, List.length_cons]
  have e0 : ((0 : Nat) : Int) = 0 := rfl
  rw [e0] at h0
  show _ ≤ _
  simp only [Nat.zero_add, Nat.reduceAdd] at *
  omega
theorem text_len {b : Nat → Nat} (s : Nat → Bool) (hb : ∀ k, k < 5 → b k < 2 ^ 64) (hm : may b = true) (k : Nat) (hk : k < 5) : (Fld.text (k : Int) (b k) (s k)).length ≤ 150 :=
  (Fld.back (s k) (by omega) (hb k hk) (may_iff.1 hm k hk)).1
theorem upto_le {b : Nat → Nat} (s : Nat → Bool) (hb : ∀ k, k < 5 → b k < 2 ^ 64) (hm : may b = true) : ∀ i, i < 5 → (upto b s i).length ≤ 151 * (i + 1)
  | 0, h => Nat.le_trans (text_len s hb hm 0 h) (by decide)
  | i + 1, h => by
    have h1 := upto_le s hb hm i (by omega)
    have h2 := text_len s hb hm (i + 1) h
    simp only [upto, List.length_append, List.length_cons]
    omega
end Cron
def fv (b : Nat → Nat) (s : Nat → Bool) (k : Nat) : ByteArray := ba (Fld.text (k : Int) (b k) (s k))
/-- what lies in memory while a text is made: the texts so far -/
structure TT (w : World) (b : Nat → Nat) (s : Nat → Bool) (v : Value) (i : Nat) (W : World) : Prop where
  bel : Below w.heap.size w W
  own : W.ownsRow (w.heap.size + 1) 9 1 v i ((List.range i).map fun k => .string (fv b s k))
theorem TT.below {w : World} {b : Nat → Nat} {s : Nat → Bool} {v : Value} {i : Nat} {W W' : World} (t : TT w b s v i W) (hb : Below W.heap.size W W') : TT w b s v i W' :=
  ⟨t.bel.trans (hb.mono t.bel.size), own_same t.own fun g _ _ _ hg => hb.block g (lt_of_block hg)⟩

set_option maxRecDepth 100000 in
set_option maxHeartbeats 4000000 in
theorem textX_none (b : Nat → Nat) (s : Nat → Bool) (hb : ∀ k, k < 5 → b k < 2 ^ 64) (hm : Cron.may b = false) (w : World) (hw : TabsOn w) : Calls Tryz.prog 11 #[xval b s] w fun e w' => e = .returned (.string (ba [])) ∧ Below w.heap.size w w' := by
  have O := Lib.hid (OwnX.new w b s)
  have MX := fun W hW => mayX_any b s hb W hW
  rw [hm] at MX
  unfold xval xcells at *
  have MX := Lib.hid MX
  have HW := Lib.hid hw
  clear hw hb hm
  go_enter Tryz.func11, Tryz.ntmps11
  go_wp2_with fail
  with_reducible refine (MX.out _ (HW.out.next O.out.bel)).mono ?_
  rintro e w1 ⟨rfl, hb1⟩
  go_wp2_with fail
  go_ret
  exact ⟨rfl, O.out.bel.trans (hb1.mono O.out.bel.size)⟩

set_option maxRecDepth 100000 in
set_option maxHeartbeats 4000000 in
theorem textX_may (b : Nat → Nat) (s : Nat → Bool) (hb : ∀ k, k < 5 → b k < 2 ^ 64) (hm : Cron.may b = true) (w : World) (hw : TabsOn w) : Calls Tryz.prog 11 #[xval b s] w fun e w' => e = .returned (.string (ba (Cron.upto b s 4))) ∧ Below w.heap.size w w' := by
  obtain ⟨i0, hi0, hz0, hz1, hz2⟩ := info_parts infoStr
  have O := Lib.hid (OwnX.new w b s)
  have MX := fun W hW => mayX_any b s hb W hW
  rw [hm] at MX
  have TX := fun (i : Nat) (hi : i < 5) W hW => text_any (i : Int) (b i) (hb i hi) (s i) W hW
  unfold fval at TX
  have HI := Lib.hid (index_expr b s)
  have HJN := Lib.hid (Cron.join_five b s)
  have HLN := Lib.hid (Cron.upto_len s hb hm)
  unfold xval xcells at *
  have MX := Lib.hid MX
  have TX := Lib.hid TX
  have HW := Lib.hid hw
  clear hw hb hm
  go_enter Tryz.func11, Tryz.ntmps11
  go_wp2_with fail
  with_reducible refine (MX.out _ (HW.out.next O.out.bel)).mono ?_
  rintro e w1 ⟨rfl, hb1⟩
  have O1 := Lib.hid (O.out.below hb1)
  have t0 : TT w b s (.slice none 0 0) 0 w1 := ⟨O1.out.bel, World.ownsRow_nil _ _ _ _⟩
  clear hb1 O MX
  obtain ⟨c0, c1, c2, c3, c4, c5, c6, c7, c8, c9⟩ := xobj_cells O1.out.row
  go_wp2_with fail
  clear c0 c1 c2 c3 c4 c5 c6 c7 c8 c9
  clear O1
  generalize (#[.int .u64 ((b 0 : Nat) : Int), .bool (s 0), .int .u64 ((b 1 : Nat) : Int), .bool (s 1), .int .u64 ((b 2 : Nat) : Int), .bool (s 2), .int .u64 ((b 3 : Nat) : Int), .bool (s 3), .int .u64 ((b 4 : Nat) : Int), .bool (s 4)] : Array Value) = A at *
  go_loopg [3, 10] 5 (fun g v t wx => ∃ i : Nat, i + g = 5 ∧ t = .int .i64 i ∧ TT w b s v i wx)
  case atStart => exact ⟨0, by omega, rfl, t0⟩
  case round =>
    obtain ⟨i, hig, rfl, tt⟩ := hrel
    have HT := Lib.hid tt
    clear tt
    cases gk with
    | zero =>
      obtain rfl : i = 5 := by omega
      have hown := HT.out.own
      obtain ⟨g9, cap, hv, hcap⟩ : ∃ g9 cap, u3 = .slice (some ⟨g9, 0, none⟩) 5 cap ∧ 5 ≤ cap := by
        rcases hown.2 with ⟨_, h0⟩ | ⟨g9, cap, _, hv, _, _, h8, _⟩
        · exact absurd h0 (by decide)
        · exact ⟨g9, cap, hv, h8⟩
      subst hv
      have hg9 : g9 < wr.heap.size := (hown.lt g9 rfl).2
      have emap : ((List.range 5).map fun k => fv b s k).map (·.data.toList) = (List.range 5).map fun (k : Nat) => Fld.text (k : Int) (b k) (s k) := by rw [List.map_map]; rfl
      have HJ := Tryz.strings_Join g9 0 cap ((List.range 5).map fun k => fv b s k) ⟨#[32]⟩ wr (fun j x hx => by
        rw [Nat.zero_add, hown.cellAt j (by
          rw [Nat.mul_one]
          have := (List.getElem?_eq_some_iff.1 hx).1
          simpa using this)]
        rw [List.getElem?_map] at hx ⊢
        cases hp : (List.range 5)[j]? with
        | none => rw [hp] at hx; cases hx
        | some r => rw [hp] at hx; simp at hx; rw [← hx]; rfl) hg9 (by rw [List.length_map]; decide) (by rw [List.length_map]; exact hcap) (by rw [emap, HJN.out]; exact Nat.le_trans HLN.out (by decide))
      rw [emap, HJN.out, List.length_map, List.length_range] at HJ
      have HJ := Lib.hid HJ
      clear hown hcap hg9 emap
      go_wp2_with fail
      with_reducible refine HJ.out.mono ?_
      rintro e w9 ⟨rfl, hb9⟩
      go_wp2_with fail
      go_ret
      exact ⟨rfl, HT.out.bel.trans (hb9.mono HT.out.bel.size)⟩
    | succ g =>
      have hi : i < 5 := by omega
      have hi5 : (i : Int) < 5 := by omega
      have hix : ∀ W, (Instr.index 27 (.agg A) (.int .i64 (i : Int))).run Tryz.prog W = .ok (.agg #[.int .u64 ((b i : Nat) : Int), .bool (s i)]) W := HI.out i hi
      have HT1 := Lib.hid (HT.out.below ((Below.refl _ _).alloc (Nat.le_refl _) (.cells #[Value.int .u64 ((b i : Nat) : Int), Value.bool (s i)] 25)))
      go_wp2_with fail
      with_reducible refine (TX.out i hi _ (HW.out.next HT1.out.bel)).mono ?_
      rintro e w4 ⟨rfl, hb4⟩
      have HT4 := Lib.hid (HT1.out.below hb4)
      clear hb4 HT1 hix
      have hsz4 := HT4.out.bel.size
      go_wp2_with (at_builtin; refine wpList_append_own _ rfl _ _ 45 rfl (w.heap.size + 1) 9 i0 (.string ByteArray.empty) 1 16 Tryz.underlying45 hi0 hz0 hz1 hz2 rfl (by decide) u3 _ _ rfl (HT4.out.own.alloc _) ⟨w4.heap.size, 0, none⟩ 1 1 [.string (fv b s i)] rfl rfl (cell_one_new _ _ _) (by simp [Value.oneCell']) (by unfold maxLen; omega) (by omega) (by simp; omega) ?_)
      intro v' w6 hown' hgrow _
      have t6 : TT w b s v' (i + 1) w6 := by
        refine ⟨(HT4.out.bel.alloc HT4.out.bel.size _).grown hgrow (by simp; omega) (fun k9 hk9 => by have := (HT4.out.own.lt k9 hk9).1; omega), ?_⟩
        rw [List.range_succ, List.map_append]
        exact hown'
      have HT6 := Lib.hid t6
      clear hown' hgrow t6
      go_wp2_with fail
      go_roundg g
      case measure => omega
      case rel => exact ⟨i + 1, by omega, by go_num, HT6.out⟩

theorem textX_any (b : Nat → Nat) (s : Nat → Bool) (hb : ∀ k, k < 5 → b k < 2 ^ 64) (w : World) (hw : TabsOn w) : Calls Tryz.prog 11 #[xval b s] w fun e w' => e = .returned (.string (ba (Cron.text b s))) ∧ Below w.heap.size w w' := by
  unfold Cron.text
  cases hm : Cron.may b
  · exact textX_none b s hb hm w hw
  · exact textX_may b s hb hm w hw

set_option maxRecDepth 100000 in
set_option maxHeartbeats 4000000 in
theorem refTextX_any (b : Nat → Nat) (s : Nat → Bool) (hb : ∀ k, k < 5 → b k < 2 ^ 64) (w : World) : Calls Tryz.prog 12 #[xval b s] w fun e w' => e = .returned (.string (ba (Cron.text b s))) ∧ Below w.heap.size w w' := by
  have O := Lib.hid (OwnX.new w b s)
  have MX := fun W => refMayX_any b s hb W
  have T0 := fun W => refText_any 0 (b 0) (hb 0 (by decide)) (s 0) W
  have TX := fun (i : Nat) (hi : i < 5) W => refText_any (i : Int) (b i) (hb i hi) (s i) W
  unfold xval xcells at *
  have TX := Lib.hid TX
  have T0 := Lib.hid T0
  unfold Cron.text
  cases hm : Cron.may b
  · rw [hm] at MX
    have MX := Lib.hid MX
    clear hm hb
    go_enter Tryz.func12, Tryz.ntmps12
    go_wp2_with fail
    with_reducible refine (MX.out _).mono ?_
    rintro e w1 ⟨rfl, hb1⟩
    go_wp2_with fail
    go_ret
    exact ⟨rfl, O.out.bel.trans (hb1.mono O.out.bel.size)⟩
  · rw [hm] at MX
    have MX := Lib.hid MX
    have L1 := Lib.hid (Cron.upto_le s hb hm)
    have L2 := Lib.hid (Cron.text_len s hb hm)
    clear hm hb
    go_enter Tryz.func12, Tryz.ntmps12
    go_wp2_with fail
    with_reducible refine (MX.out _).mono ?_
    rintro e w1 ⟨rfl, hb1⟩
    have O1 := Lib.hid (O.out.below hb1)
    clear hb1 O MX
    obtain ⟨c0, c1, c2, c3, c4, c5, c6, c7, c8, c9⟩ := xobj_cells O1.out.row
    go_wp2_with fail
    with_reducible refine (T0.out _).mono ?_
    rintro e w2 ⟨rfl, hb2⟩
    have O2 := Lib.hid (O1.out.below hb2)
    clear hb2 O1 T0 c0 c1 c2 c3 c4 c5 c6 c7 c8 c9
    go_wp2_with fail
    go_loopg [3, 4] 4 (fun g v t wx => OwnX w w.heap.size b s wx ∧ ∃ i : Nat, i + g = 4 ∧ v = .string (ba (Cron.upto b s i)) ∧ t = .int .i64 ((i : Int) + 1))
    case atStart => exact ⟨O2.out, 0, by omega, rfl, rfl⟩
    case round =>
      obtain ⟨ow, i, hig, rfl, rfl⟩ := hrel
      have OW := Lib.hid ow
      clear ow
      cases gk with
      | zero =>
        obtain rfl : i = 4 := by omega
        go_wp2_with fail
        go_ret
        exact ⟨rfl, OW.out.bel⟩
      | succ g =>
        have hi5 : (i : Int) + 1 < 5 := by omega
        obtain ⟨d0, d1⟩ := xobj_at OW.out.row (i + 1) (by omega)
        have TI := TX.out (i + 1) (by omega)
        rw [show ((i + 1 : Nat) : Int) = (i : Int) + 1 from rfl] at TI
        have TI := Lib.hid TI
        have E : ba (Cron.upto b s i) ++ ⟨#[32]⟩ ++ ba (Fld.text ((i : Int) + 1) (b (i + 1)) (s (i + 1))) = ba (Cron.upto b s (i + 1)) := by
          rw [show (⟨#[32]⟩ : ByteArray) = ba [32] from rfl, ba_app, ba_app, List.append_assoc]
          rfl
        have E := Lib.hid E
        have z1 : (ba (Cron.upto b s i)).size ≤ 1000 := by rw [ba_size]; exact Nat.le_trans (L1.out i (by omega)) (by omega)
        have z2 : (ba (Fld.text ((i : Int) + 1) (b (i + 1)) (s (i + 1)))).size ≤ 1000 := by rw [ba_size]; exact Nat.le_trans (L2.out (i + 1) (by omega)) (by omega)
        generalize ba (Fld.text ((i : Int) + 1) (b (i + 1)) (s (i + 1))) = tv at *
        generalize hup : ba (Cron.upto b s i) = uv at *
        go_wp2_with fail
        with_reducible refine (TI.out _).mono ?_
        rintro e w4 ⟨rfl, hb4⟩
        have OW4 := Lib.hid (OW.out.below hb4)
        clear hb4 OW d0 d1
        go_wp2_with fail
        go_roundg g
        case measure => omega
        case rel => exact ⟨OW4.out, i + 1, by omega, by rw [← E.out], by go_num⟩
end Go.Proofs.YtoamhjcnajljlaaGreatDoor
