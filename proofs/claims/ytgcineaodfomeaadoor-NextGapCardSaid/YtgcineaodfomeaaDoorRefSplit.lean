/- ringerref06.split, by its contract: a text at each of a byte. -/
import Derived.Test.YtgcineaodfomeaaDoorExpr
import Derived.Test.YtgcineaodfomeaaDoorBackM
import Derived.Test.YtgcineaodfomeaaDoorRefAsk
namespace Go.Proofs.YtgcineaodfomeaaDoor
open Go.RowKit Go.Shelf
attribute [local go_sem] Oper.semAt_some

theorem ba_cut (l : List UInt8) (a b : Nat) : (ba l).extract a b = ba ((l.drop a).take (b - a)) := by
  apply ByteArray.ext
  simp [ba, List.extract]
theorem index_text (l : List UInt8) (i : Nat) (h : i < l.length) (W : World) : (Instr.index 9 (.string (ba l)) (.int .i64 (i : Int))).run Tryd.prog W = .ok (.int .u8 ((l[i].toNat : Nat) : Int)) W := by
  have hs : (ba l).size = l.length := ba_size l
  rw [run_index_string W _ _ _ _ Tryd.underlying9, dif_pos ⟨by omega, by omega⟩]
  rfl
theorem cut_text (l : List UInt8) (a b : Nat) (h : a ≤ b) (hb : b ≤ l.length) (W : World) : (Instr.slice 9 (.string (ba l)) (some (.int .i64 (a : Int))) (some (.int .i64 (b : Int))) none).run Tryd.prog W = .ok (.string (ba ((l.drop a).take (b - a)))) W := by
  have hs : (ba l).size = l.length := ba_size l
  rw [run_slice_string_if W _ _ _ _ _ _ Tryd.underlying9, if_pos ⟨by omega, by omega⟩, if_pos ⟨by omega, by omega⟩]
  simp only [Int.toNat_natCast, ba_cut]
theorem rest_text (l : List UInt8) (a : Nat) (h : a ≤ l.length) (W : World) : (Instr.slice 9 (.string (ba l)) (some (.int .i64 (a : Int))) none none).run Tryd.prog W = .ok (.string (ba (l.drop a))) W := by
  have hs : (ba l).size = l.length := ba_size l
  rw [run_slice_string_from_if W _ _ _ _ Tryd.underlying9, if_pos ⟨by omega, by omega⟩]
  simp only [Int.toNat_natCast, ba_cut, hs]
  rw [List.take_of_length_le (by simp)]

/-- a text at each of a byte -/
theorem cut_one (a : List UInt8) (c : UInt8) (h : c ∉ a) : Lib.split a [c] = [a] := by
  unfold Lib.split
  rw [Lib.count_miss (by rw [Lib.index_one]; exact Fld.byte_gone a c h)]
  rfl
theorem cut_next (a r : List UInt8) (c : UInt8) (h : c ∉ a) : Lib.split (a ++ c :: r) [c] = a :: Lib.split r [c] := by
  have hi : Lib.index (a ++ c :: r) [c] = a.length := by rw [Lib.index_one]; exact Fld.byte_here a r c h
  unfold Lib.split
  rw [Lib.count_hit (by simp) hi, Nat.add_comm, Lib.splitK, hi]
  have : ((a.length : Int) == -1) = false := beq_eq_false_iff_ne.2 (by omega)
  simp [this]
def str1 (l : List UInt8) : Value := .string (ba l)
/-- a row of texts that a call made -/
structure RowT (w : World) (v : Value) (xs : List (List UInt8)) (W : World) : Prop where
  bel : Below w.heap.size w W
  own : W.ownsRow w.heap.size 9 1 v xs.length (xs.map str1)
theorem RowT.below {w : World} {v : Value} {xs : List (List UInt8)} {W W' : World} (t : RowT w v xs W) (hb : Below W.heap.size W W') : RowT w v xs W' :=
  ⟨t.bel.trans (hb.mono t.bel.size), own_same t.own fun g _ _ _ hg => hb.block g (lt_of_block hg)⟩
theorem RowT.start (w : World) : RowT w (.slice none 0 0) [] w := ⟨Below.refl _ _, World.ownsRow_nil _ _ _ _⟩
theorem RowT.some {w : World} {v : Value} {xs : List (List UInt8)} {W : World} (t : RowT w v xs W) (h : xs ≠ []) : ∃ g cap, v = .slice (.some ⟨g, 0, none⟩) xs.length cap ∧ xs.length ≤ cap ∧ (w.heap.size ≤ g ∧ g < W.heap.size) ∧ ∀ (i : Nat) x, xs[i]? = .some x → W.cell? ⟨g, i, none⟩ = .some (.string (ba x)) := by
  have hown := t.own
  obtain ⟨g9, cap, hv, hcap⟩ : ∃ g9 cap, v = .slice (.some ⟨g9, 0, none⟩) xs.length cap ∧ xs.length ≤ cap := by
    rcases hown.2 with ⟨_, h0⟩ | ⟨g9, cap, _, hv, _, _, h8, _⟩
    · exact absurd (List.eq_nil_of_length_eq_zero h0) h
    · exact ⟨g9, cap, hv, h8⟩
  subst hv
  refine ⟨g9, cap, rfl, hcap, hown.lt g9 rfl, fun i x hx => ?_⟩
  have hi := (List.getElem?_eq_some_iff.1 hx).1
  rw [hown.cellAt i (by rw [Nat.mul_one]; exact hi), List.getElem?_map, hx]
  rfl

set_option maxRecDepth 100000 in
set_option maxHeartbeats 4000000 in
theorem rsplit_any (l : List UInt8) (hl : l.length ≤ 1000) (c : UInt8) (z : Int) (hz : z = ((c.toNat : Nat) : Int)) (w : World) : Calls Tryd.prog 52 #[.string (ba l), .int .u8 z] w fun e w' => (∃ v, e = .returned v ∧ RowT w v (Lib.split l [c]) w') := by
  obtain ⟨i0, hi0, hz0, hz1, hz2⟩ := info_parts infoStr
  have hsz : (ba l).size = l.length := ba_size l
  subst hz
  go_enter Tryd.func52, Tryd.ntmps52
  go_wp2_with fail
  go_loopg [5, 6, 7] l.length (fun g v ta ti wx => ∃ (i a : Nat) (pre : List (List UInt8)), i + g = l.length ∧ a ≤ i ∧ pre.length ≤ i ∧ ta = .int .i64 (a : Int) ∧ ti = .int .i64 (i : Int) ∧ c ∉ (l.drop a).take (i - a) ∧ Lib.split l [c] = pre ++ Lib.split (l.drop a) [c] ∧ RowT w v pre wx)
  case atStart => exact ⟨0, 0, [], by omega, by omega, by simp, rfl, rfl, by simp, by simp, RowT.start w⟩
  case round =>
    obtain ⟨i, a, pre, hig, hai, hpi, rfl, rfl, hno, hsp, rt⟩ := hrel
    have HNO := Lib.hid hno
    have HSP := Lib.hid hsp
    have HRT := Lib.hid rt
    clear hno hsp rt
    cases gk with
    | zero =>
      obtain rfl : i = l.length := by omega
      have hrest := rest_text l a (by omega)
      have hszw := HRT.out.bel.size
      go_wp2_with (at_builtin; refine wpList_append_own _ rfl _ _ 69 rfl w.heap.size 9 i0 (.string ByteArray.empty) 1 16 Tryd.underlying69 hi0 hz0 hz1 hz2 rfl (by decide) u5 _ _ rfl (HRT.out.own.alloc _) ⟨wr.heap.size, 0, none⟩ 1 1 [.string (ba (l.drop a))] rfl rfl (cell_one_new _ _ _) (by simp [Value.oneCell']) (by unfold maxLen; omega) (by omega) (by simp; omega) ?_)
      intro v' w6 hown' hgrow _
      have hcut : Lib.split (l.drop a) [c] = [l.drop a] := cut_one _ c (by
        have := HNO.out
        rwa [List.take_of_length_le (by simp)] at this)
      have t6 : RowT w v' (Lib.split l [c]) w6 := by
        rw [HSP.out, hcut]
        refine ⟨(HRT.out.bel.alloc HRT.out.bel.size _).grown hgrow (by simp; omega) (fun k9 hk9 => by have := (HRT.out.own.lt k9 hk9).1; omega), ?_⟩
        rw [List.map_append, List.length_append]
        exact hown'
      have HT6 := Lib.hid t6
      clear hown' hgrow t6 hcut
      go_wp2_with fail
      go_ret
      exact ⟨_, rfl, HT6.out⟩
    | succ g =>
      have hi : i < l.length := by omega
      have hidx := index_text l i hi
      have hlt : (i : Int) < ((ba l).size : Int) := by rw [hsz]; omega
      have hget : l[i]? = some l[i] := List.getElem?_eq_getElem hi
      by_cases he : l[i] = c
      · have hq : (((l[i].toNat : Nat) : Int) == ((c.toNat : Nat) : Int)) = true := by rw [he]; exact beq_self_eq_true _
        have hcut := cut_text l a i hai (by omega)
        have hszw := HRT.out.bel.size
        have HNX : Hid (Lib.split l [c] = (pre ++ [(l.drop a).take (i - a)]) ++ Lib.split (l.drop (i + 1)) [c]) := Lib.hid (by
          rw [HSP.out]
          have e : l.drop a = (l.drop a).take (i - a) ++ c :: l.drop (i + 1) := by
            have h1 := List.take_append_drop (i - a) (l.drop a)
            rw [List.drop_drop, show a + (i - a) = i by omega, List.drop_eq_getElem_cons hi, he] at h1
            exact h1.symm
          conv => lhs; rw [e, cut_next _ _ c HNO.out]
          simp)
        clear he hget
        generalize ((l[i].toNat : Nat) : Int) = bv at *
        go_wp2_with (at_builtin; refine wpList_append_own _ rfl _ _ 69 rfl w.heap.size 9 i0 (.string ByteArray.empty) 1 16 Tryd.underlying69 hi0 hz0 hz1 hz2 rfl (by decide) u5 _ _ rfl (HRT.out.own.alloc _) ⟨wr.heap.size, 0, none⟩ 1 1 [.string (ba ((l.drop a).take (i - a)))] rfl rfl (cell_one_new _ _ _) (by simp [Value.oneCell']) (by unfold maxLen; omega) (by omega) (by simp; omega) ?_)
        intro v' w6 hown' hgrow _
        have t6 : RowT w v' (pre ++ [(l.drop a).take (i - a)]) w6 := by
          refine ⟨(HRT.out.bel.alloc HRT.out.bel.size _).grown hgrow (by simp; omega) (fun k9 hk9 => by have := (HRT.out.own.lt k9 hk9).1; omega), ?_⟩
          rw [List.map_append, List.length_append]
          exact hown'
        have HT6 := Lib.hid t6
        clear hown' hgrow t6 hcut
        go_wp2_with fail
        go_roundg g
        case measure => omega
        case rel => exact ⟨i + 1, i + 1, pre ++ [(l.drop a).take (i - a)], by omega, by omega, by simp; omega, by go_num, by go_num, by simp, HNX.out, HT6.out⟩
      · have hq : (((l[i].toNat : Nat) : Int) == ((c.toNat : Nat) : Int)) = false := by
          rw [beq_eq_false_iff_ne]
          intro h
          exact he (UInt8.toNat_inj.1 (by omega))
        have HNX : Hid (c ∉ (l.drop a).take (i + 1 - a)) := Lib.hid (by
          rw [show i + 1 - a = (i - a) + 1 by omega, List.take_add_one]
          simp only [List.mem_append, not_or]
          refine ⟨HNO.out, ?_⟩
          rw [List.getElem?_drop, show a + (i - a) = i by omega, hget]
          simp
          exact fun h => he h.symm)
        clear he hget
        generalize ((l[i].toNat : Nat) : Int) = bv at *
        go_wp2_with fail
        go_roundg g
        case measure => omega
        case rel => exact ⟨i + 1, a, pre, by omega, by omega, by omega, rfl, by go_num, HNX.out, HSP.out, HRT.out⟩
end Go.Proofs.YtgcineaodfomeaaDoor
