/- ringerref07.Parse of a text of five parts, each '*' or a number in digits, by its contract. -/
import Derived.Test.YtgcineaodfomeaaDoorRefPlain
import Derived.Test.YtgcineaodfomeaaDoorSpell
namespace Go.Proofs.YtgcineaodfomeaaDoor
open Go.RowKit Go.Shelf
attribute [local go_sem] Oper.semAt_some

namespace Cron
/-- five parts, each '*' or a number in digits that may be -/
def plain (l : List UInt8) : Prop := (parts l).length = 5 ∧ ∀ k : Fin 5, Fld.plain k.val ((parts l).getD k.val [])
instance (l : List UInt8) : Decidable (plain l) := by unfold plain; exact inferInstance
def rb (l : List UInt8) (k : Nat) : Nat := Fld.sb k ((parts l).getD k [])
def rs (l : List UInt8) (k : Nat) : Bool := Fld.ss ((parts l).getD k [])
end Cron
/-- what lies in memory while the reference parses an expression -/
structure RX (w : World) (X : Nat) (b : Nat → Nat) (s : Nat → Bool) (g : Nat) (ps : List (List UInt8)) (W : World) : Prop where
  bel : Below w.heap.size w W
  res : W.heap[w.heap.size]? = some (xobj (fun _ => 0) (fun _ => false))
  exp : W.heap[X]? = some (xobj b s)
  row : ∀ (i : Nat) x, ps[i]? = some x → W.cell? ⟨g, i, none⟩ = some (.string (ba x))
theorem RX.below {w : World} {X : Nat} {b : Nat → Nat} {s : Nat → Bool} {g : Nat} {ps : List (List UInt8)} {W W' : World} (p : RX w X b s g ps W) (hb : Below W.heap.size W W') : RX w X b s g ps W' :=
  ⟨p.bel.trans (hb.mono p.bel.size), (hb.block _ (lt_of_block p.res)).trans p.res, (hb.block _ (lt_of_block p.exp)).trans p.exp, fun i x h => stays hb (p.row i x h)⟩
theorem RX.field {w : World} {X : Nat} {b : Nat → Nat} {s : Nat → Bool} {g : Nat} {ps : List (List UInt8)} {W : World} (p : RX w X b s g ps W) (hX : w.heap.size < X) (hg : X ≠ g) (x : Nat) (t : Bool) (i : Nat) (hi : i < 5) : RX w X (upd b i x) (upd s i t) g ps ((W.setCell ⟨X, i * 2, none⟩ (.int .u64 (x : Int))).setCell ⟨X, i * 2 + 1, none⟩ (.bool t)) :=
  ⟨(p.bel.setCell (p := ⟨X, i * 2, none⟩) (by show _ ≤ X; omega) _).setCell (p := ⟨X, i * 2 + 1, none⟩) (by show _ ≤ X; omega) _,
    (set_else (by omega)).trans ((set_else (by omega)).trans p.res), field_row p.exp x t i hi, fun q y h => (cell_else hg).trans ((cell_else hg).trans (p.row q y h))⟩

set_option maxRecDepth 100000 in
set_option maxHeartbeats 8000000 in
theorem rparseX_any (l : List UInt8) (hl : 1 ≤ l.length ∧ l.length ≤ 400) (h64 : ((((l[0]'(by omega)).toNat : Nat) : Int) == 64) = false) (hp : Cron.plain l) (w : World) :
    Calls Tryd.prog 31 #[.string (ba l)] w fun e w' => e = .returned (.tuple #[xval (Cron.rb l) (Cron.rs l), .int .i64 0]) ∧ Below w.heap.size w w' := by
  obtain ⟨i0, hi0, hz0, hz1, hz2⟩ := info_parts infoStr
  have hsz : (ba l).size = l.length := ba_size l
  have h642 : ((((((ba l)[0]'(by rw [hsz]; omega)).toNat : Nat) : Int)) == 64) = false := h64
  have q400 : decide ((400 : Int) < (l.length : Int)) = false := by simp; omega
  have O := OwnX.new w (fun _ => 0) (fun _ => false)
  have HPL := Lib.hid hp
  have HL5 := Lib.hid hp.1
  clear hp h64
  go_enter Tryd.func31, Tryd.ntmps31
  go_wp2_with fail
  have hs0 : (w.alloc (.cells zeroX 26)).heap.size = w.heap.size + 1 := by simp
  have hr0 : (w.alloc (.cells zeroX 26)).heap[w.heap.size]? = some (xobj (fun _ => 0) (fun _ => false)) := O.row
  have hb0 : Below w.heap.size w (w.alloc (.cells zeroX 26)) := O.bel
  generalize w.alloc (.cells zeroX 26) = wA at *
  clear O
  have HR0 := Lib.hid hr0
  have HB0 := Lib.hid hb0
  clear hr0 hb0
  go_loopg [6, 7, 8] (l.length + 1) (fun g v ta ti wx => ∃ (i a : Nat) (pre : List (List UInt8)), i + g = l.length + 1 ∧ a ≤ i ∧ pre.length ≤ i ∧ ta = .int .i64 (a : Int) ∧ ti = .int .i64 (i : Int) ∧ (32 : UInt8) ∉ (l.drop a).take (i - a) ∧ Cron.parts l = pre ++ (if a ≤ l.length then Cron.parts (l.drop a) else []) ∧ (i = l.length + 1 → a = l.length + 1) ∧ RowT wA v pre wx)
  case atStart => exact ⟨0, 0, [], by omega, by omega, by simp, rfl, rfl, by simp, by simp, fun h => by omega, RowT.start wA⟩
  case round =>
    obtain ⟨i, a, pre, hig, hai, hpi, rfl, rfl, hno, hsp, hend, rt⟩ := hrel
    have HNO := Lib.hid hno
    have HSP := Lib.hid hsp
    have HRT := Lib.hid rt
    clear hno hsp rt
    cases gk with
    | zero =>
      obtain rfl : i = l.length + 1 := by omega
      obtain rfl : a = l.length + 1 := hend rfl
      have hpre : pre = Cron.parts l := by rw [HSP.out, if_neg (by omega), List.append_nil]
      subst hpre
      obtain ⟨g, cap, rfl, hcap, hg, hcell⟩ := HRT.out.some (fun h => by have := HL5.out; rw [h] at this; simp at this)
      rw [HL5.out] at hcap ⊢
      have HC := Lib.hid hcell
      have HBw := Lib.hid HRT.out.bel
      clear hcell HRT HNO HSP hpi hend hai
      have hgt : ¬ (((l.length + 1 : Nat) : Int) ≤ (l.length : Int)) := by omega
      have hgX : g < wr.heap.size := hg.2
      have hXw : w.heap.size < wr.heap.size := by have := HBw.out.size; omega
      have HRX : Hid (RX w wr.heap.size (fun _ => 0) (fun _ => false) g (Cron.parts l) (wr.alloc (.cells zeroX 26))) := Lib.hid (by
        have hb := (Below.refl wr.heap.size wr).alloc (Nat.le_refl _) (.cells zeroX 26)
        have hb2 : Below w.heap.size w wr := HB0.out.trans (HBw.out.mono (by omega))
        exact ⟨hb2.trans (hb.mono (by omega)), (hb.block _ hXw).trans ((HBw.out.block _ (by omega)).trans HR0.out), heap_alloc_new wr _, fun i x h => stays hb (HC.out i x h)⟩)
      have hne : wr.heap.size ≠ g := by omega
      go_wp2_with fail
      generalize wr.alloc (.cells zeroX 26) = wC at *
      generalize wr.heap.size = X at *
      have HX0 : Hid (RX w X (fun k => if k < 0 then Cron.rb l k else 0) (fun k => if k < 0 then Cron.rs l k else false) g (Cron.parts l) wC) := Lib.hid HRX.out
      have hX0 := HX0.out
      clear HRX HC HBw HR0 HB0 hg hgX
      go_loopg [10] 5 (fun q t wx => ∃ i : Nat, i + q = 5 ∧ t = .int .i64 (i : Int) ∧ RX w X (fun k => if k < i then Cron.rb l k else 0) (fun k => if k < i then Cron.rs l k else false) g (Cron.parts l) wx)
      case atStart => exact ⟨0, by omega, rfl, hX0⟩
      case round =>
        obtain ⟨i, hiq, rfl, rx⟩ := hrel
        have HS := Lib.hid rx
        clear rx
        cases gk with
        | zero =>
          obtain rfl : i = 5 := by omega
          obtain ⟨c0, c1, c2, c3, c4, c5, c6, c7, c8, c9⟩ := xobj_cells HS.out.res
          obtain ⟨d0, d1, d2, d3, d4, d5, d6, d7, d8, d9⟩ := xobj_cells HS.out.exp
          have f := fun j => row_free HS.out.res j
          have e0 : ∀ k : Nat, k < 5 → (if k < 5 then Cron.rb l k else 0) = Cron.rb l k := fun k hk => if_pos hk
          have e1 : ∀ k : Nat, k < 5 → (if k < 5 then Cron.rs l k else false) = Cron.rs l k := fun k hk => if_pos hk
          simp only [e0 0 (by decide), e0 1 (by decide), e0 2 (by decide), e0 3 (by decide), e0 4 (by decide), e1 0 (by decide), e1 1 (by decide), e1 2 (by decide), e1 3 (by decide), e1 4 (by decide)] at d0 d1 d2 d3 d4 d5 d6 d7 d8 d9
          clear e0 e1
          go_wp2_with fail
          change bodyPost _ _ _ _ _ (putX _ w.heap.size (Cron.rb l) (Cron.rs l))
          have hbF := putX_below (b := Cron.rb l) (s := Cron.rs l) HS.out.bel (Nat.le_refl w.heap.size)
          have hrF := putX_row (b := Cron.rb l) (s := Cron.rs l) HS.out.res
          clear c0 c1 c2 c3 c4 c5 c6 c7 c8 c9 f d0 d1 d2 d3 d4 d5 d6 d7 d8 d9
          generalize putX _ w.heap.size (Cron.rb l) (Cron.rs l) = WF at *
          obtain ⟨c0, c1, c2, c3, c4, c5, c6, c7, c8, c9⟩ := xobj_cells hrF
          refine bodyPost_ret (v := .tuple #[xval (Cron.rb l) (Cron.rs l), .int .i64 0]) (by simp [results, Tryd.results31, go_sem, c0, c1, c2, c3, c4, c5, c6, c7, c8, c9, xval, xcells]) rfl ⟨rfl, hbF⟩
        | succ q =>
          have hi : i < 5 := by omega
          have hi5 : (i : Int) < 5 := by omega
          have hpl := HPL.out.2 ⟨i, hi⟩
          obtain ⟨x, hx⟩ : ∃ x, (Cron.parts l)[i]? = some x := ⟨(Cron.parts l)[i]'(by rw [HL5.out]; exact hi), List.getElem?_eq_getElem _⟩
          have cx := HS.out.row i x hx
          have hpx : (Cron.parts l).getD i [] = x := by rw [List.getD, hx]; rfl
          have hpl2 : Fld.plain i x := by rw [← hpx]; exact hpl
          have PA := fun W => rparse_plain i (by omega) x hpl2 W
          have HB : upd (fun k => if k < i then Cron.rb l k else 0) i (Fld.sb i x) = fun k => if k < i + 1 then Cron.rb l k else 0 := by
            funext k
            unfold upd
            by_cases h : k = i
            · subst h; rw [if_pos rfl, if_pos (by omega)]; unfold Cron.rb; rw [hpx]
            · rw [if_neg h]
              show (if k < i then Cron.rb l k else 0) = if k < i + 1 then Cron.rb l k else 0
              by_cases h2 : k < i
              · rw [if_pos h2, if_pos (by omega)]
              · rw [if_neg h2, if_neg (by omega)]
          have HSS : upd (fun k => if k < i then Cron.rs l k else false) i (Fld.ss x) = fun k => if k < i + 1 then Cron.rs l k else false := by
            funext k
            unfold upd
            by_cases h : k = i
            · subst h; rw [if_pos rfl, if_pos (by omega)]; unfold Cron.rs; rw [hpx]
            · rw [if_neg h]
              show (if k < i then Cron.rs l k else false) = if k < i + 1 then Cron.rs l k else false
              by_cases h2 : k < i
              · rw [if_pos h2, if_pos (by omega)]
              · rw [if_neg h2, if_neg (by omega)]
          have HB2 := Lib.hid HB
          have HSS2 := Lib.hid HSS
          unfold fval at PA
          generalize Fld.sb i x = A at *
          generalize Fld.ss x = F at *
          have PA2 := Lib.hid PA
          clear PA HB HSS hx hpx hpl hpl2
          go_wp2_with fail
          with_reducible refine (PA2.out _).mono ?_
          rintro e w4 ⟨rfl, hb4⟩
          have HS5 := Lib.hid ((HS.out.below hb4).below ((Below.refl _ _).alloc (Nat.le_refl _) (.cells #[.int .u64 (A : Int), .bool F] 24)))
          clear hb4 cx PA2
          obtain ⟨d0, d1⟩ := xobj_at HS5.out.exp i hi
          have f := fun j => row_free HS5.out.exp j
          have HSF := HS5.out.field hXw hne A F i hi
          rw [HB2.out, HSS2.out] at HSF
          have HSN := Lib.hid HSF
          clear HSF
          go_wp2_with fail
          go_roundg q
          case measure => omega
          case rel => exact ⟨i + 1, by omega, by go_num, HSN.out⟩
    | succ g =>
      have hil : i ≤ l.length := by omega
      have hlt : (i : Int) ≤ (l.length : Int) := by omega
      rw [if_pos (by omega)] at HSP
      by_cases hi : i = l.length
      · subst hi
        have qi : ((l.length : Int) == (l.length : Int)) = true := beq_self_eq_true _
        have HNX : Hid (Cron.parts l = (pre ++ [(l.drop a).take (l.length - a)]) ++ (if l.length + 1 ≤ l.length then Cron.parts (l.drop (l.length + 1)) else [])) := Lib.hid (by
          rw [HSP.out, if_neg (by omega), List.append_nil]
          congr 1
          have := HNO.out
          rw [List.take_of_length_le (by simp)] at this ⊢
          exact Cron.parts_one _ this)
        have hcutx := cut_text l a l.length hai (by omega)
        have hszw := HRT.out.bel.size
        have hpl : pre.length < 5 := by
          have := congrArg List.length HNX.out
          rw [HL5.out] at this
          simp at this
          omega
        have hpiece : (l.drop a).take (l.length - a) ≠ [] := by
          intro h
          have h2 := (Fld.plain_in (HPL.out.2 ⟨pre.length, hpl⟩)).1.1
          rw [HNX.out] at h2
          simp [List.getD, h] at h2
        have hia : a ≠ l.length := by
          rintro rfl
          simp at hpiece
        have qia : ((l.length : Int) == (a : Int)) = false := by simp; omega
        clear hpiece
        go_wp2_with (at_builtin; refine wpList_append_own _ rfl _ _ 69 rfl wA.heap.size 9 i0 (.string ByteArray.empty) 1 16 Tryd.underlying69 hi0 hz0 hz1 hz2 rfl (by decide) u6 _ _ rfl (HRT.out.own.alloc _) ⟨wr.heap.size, 0, none⟩ 1 1 [.string (ba ((l.drop a).take (l.length - a)))] rfl rfl (cell_one_new _ _ _) (by simp [Value.oneCell']) (by unfold maxLen; omega) (by omega) (by simp; omega) ?_)
        intro v' w6 hown' hgrow _
        have t6 : RowT wA v' (pre ++ [(l.drop a).take (l.length - a)]) w6 := by
          refine ⟨(HRT.out.bel.alloc HRT.out.bel.size _).grown hgrow (by simp; omega) (fun k9 hk9 => by have := (HRT.out.own.lt k9 hk9).1; omega), ?_⟩
          rw [hs0, List.map_append, List.length_append]
          exact hown'
        have HT6 := Lib.hid t6
        clear hown' hgrow t6 hcutx
        go_wp2_with fail
        go_roundg g
        case measure => omega
        case rel => exact ⟨l.length + 1, l.length + 1, pre ++ [(l.drop a).take (l.length - a)], by omega, by omega, by simp; omega, by go_num, by go_num, by simp, HNX.out, fun _ => by omega, HT6.out⟩
      · have hi2 : i < l.length := by omega
        have qi : ((i : Int) == (l.length : Int)) = false := by simp; omega
        have hidx := index_text l i hi2
        have hget : l[i]? = some l[i] := List.getElem?_eq_getElem hi2
        by_cases he : l[i] = 32
        · have hq : (((l[i].toNat : Nat) : Int) == 32) = true := by rw [he]; rfl
          have HNX : Hid (Cron.parts l = (pre ++ [(l.drop a).take (i - a)]) ++ (if i + 1 ≤ l.length then Cron.parts (l.drop (i + 1)) else [])) := Lib.hid (by
            rw [HSP.out, if_pos (by omega)]
            have e : l.drop a = (l.drop a).take (i - a) ++ 32 :: l.drop (i + 1) := by
              have h1 := List.take_append_drop (i - a) (l.drop a)
              rw [List.drop_drop, show a + (i - a) = i by omega, List.drop_eq_getElem_cons hi2, he] at h1
              exact h1.symm
            conv => lhs; rw [e, Cron.parts_next _ _ HNO.out]
            simp)
          clear he hget
          have hcutx := cut_text l a i hai (by omega)
          have hszw := HRT.out.bel.size
          have hpl : pre.length < 5 := by
            have := congrArg List.length HNX.out
            rw [HL5.out] at this
            simp at this
            omega
          have hpiece : (l.drop a).take (i - a) ≠ [] := by
            intro h
            have h2 := (Fld.plain_in (HPL.out.2 ⟨pre.length, hpl⟩)).1.1
            rw [HNX.out] at h2
            simp [List.getD, h] at h2
          have hia : a ≠ i := by
            rintro rfl
            simp at hpiece
          have qia : ((i : Int) == (a : Int)) = false := by simp; omega
          clear hpiece
          generalize ((l[i].toNat : Nat) : Int) = bv at *
          go_wp2_with (at_builtin; refine wpList_append_own _ rfl _ _ 69 rfl wA.heap.size 9 i0 (.string ByteArray.empty) 1 16 Tryd.underlying69 hi0 hz0 hz1 hz2 rfl (by decide) u6 _ _ rfl (HRT.out.own.alloc _) ⟨wr.heap.size, 0, none⟩ 1 1 [.string (ba ((l.drop a).take (i - a)))] rfl rfl (cell_one_new _ _ _) (by simp [Value.oneCell']) (by unfold maxLen; omega) (by omega) (by simp; omega) ?_)
          intro v' w6 hown' hgrow _
          have t6 : RowT wA v' (pre ++ [(l.drop a).take (i - a)]) w6 := by
            refine ⟨(HRT.out.bel.alloc HRT.out.bel.size _).grown hgrow (by simp; omega) (fun k9 hk9 => by have := (HRT.out.own.lt k9 hk9).1; omega), ?_⟩
            rw [hs0, List.map_append, List.length_append]
            exact hown'
          have HT6 := Lib.hid t6
          clear hown' hgrow t6 hcutx
          go_wp2_with fail
          go_roundg g
          case measure => omega
          case rel => exact ⟨i + 1, i + 1, pre ++ [(l.drop a).take (i - a)], by omega, by omega, by simp; omega, by go_num, by go_num, by simp, HNX.out, fun h => by omega, HT6.out⟩
        · have hq : (((l[i].toNat : Nat) : Int) == 32) = false := by
            rw [beq_eq_false_iff_ne]
            intro h
            exact he (UInt8.toNat_inj.1 (by show l[i].toNat = 32; omega))
          have HNX : Hid ((32 : UInt8) ∉ (l.drop a).take (i + 1 - a)) := Lib.hid (by
            rw [show i + 1 - a = (i - a) + 1 by omega, List.take_add_one]
            simp only [List.mem_append, not_or]
            refine ⟨HNO.out, ?_⟩
            rw [List.getElem?_drop, show a + (i - a) = i by omega, hget]
            simp
            exact fun h => he h.symm)
          clear he hget
          generalize ((l[i].toNat : Nat) : Int) = bv at *
          go_wp2_with fail
          go_roundg g
          case measure => omega
          case rel => exact ⟨i + 1, a, pre, by omega, by omega, by omega, rfl, by go_num, HNX.out, by rw [if_pos (by omega)]; exact HSP.out, fun h => by omega, HRT.out⟩
end Go.Proofs.YtgcineaodfomeaaDoor
