/- ringerref06.Parse of a text of one item, by its contract. -/
import Derived.Test.YtgcineaodfomeaaDoorRefItem
namespace Go.Proofs.YtgcineaodfomeaaDoor
open Go.RowKit

theorem cell_else {W : World} {B C i j : Nat} {v : Value} (h : C ≠ B) : (W.setCell ⟨C, j, none⟩ v).cell? ⟨B, i, none⟩ = W.cell? ⟨B, i, none⟩ := by
  have := set_else (W := W) (v := v) (j := j) h
  simp only [World.cell?, this]
/-- what lies in memory while the reference parses: the result, the field so far, the items, an item's numbers -/
structure RP (w : World) (acc : Nat) (star : Bool) (gi : Nat) (l : List UInt8) (W : World) : Prop where
  bel : Below w.heap.size w W
  res : W.heap[w.heap.size]? = some (fobj 0 false)
  fld : W.heap[w.heap.size + 1]? = some (fobj acc star)
  itm : W.cell? ⟨gi, 0, none⟩ = some (.string (ba l))
theorem RP.below {w : World} {acc : Nat} {star : Bool} {gi : Nat} {l : List UInt8} {W W' : World} (p : RP w acc star gi l W) (hb : Below W.heap.size W W') : RP w acc star gi l W' :=
  ⟨p.bel.trans (hb.mono p.bel.size), (hb.block _ (lt_of_block p.res)).trans p.res, (hb.block _ (lt_of_block p.fld)).trans p.fld, stays hb p.itm⟩
theorem RP.set {w : World} {acc : Nat} {star : Bool} {gi : Nat} {l : List UInt8} {W : World} (p : RP w acc star gi l W) (hg : w.heap.size + 1 ≠ gi) (acc' : Nat) : RP w acc' star gi l (W.setCell ⟨w.heap.size + 1, 0, none⟩ (.int .u64 (acc' : Int))) :=
  ⟨p.bel.setCell (p := ⟨w.heap.size + 1, 0, none⟩) (by show _ ≤ w.heap.size + 1; omega) _, (set_else (by omega)).trans p.res, row_set p.fld 0 _, (cell_else hg).trans p.itm⟩

set_option maxRecDepth 100000 in
set_option maxHeartbeats 8000000 in
theorem rparse_one (k : Nat) (hk : k ≤ 4) (l : List UInt8) (hl : 1 ≤ l.length ∧ l.length ≤ 150) (h44 : (44 : UInt8) ∉ l) (star : Bool) (hst : ((((l[0]'(by omega)).toNat : Nat) : Int) == 42) = star)
    (xs : List Nat) (hxs : xs ≠ []) (hlen : xs.length ≤ 100) (acc sp : Nat → Nat) (h0 : acc 0 = 0)
    (hsp : ∀ j n, xs[j]? = some n → sp j = (if k = 4 ∧ n = 7 then 0 else n) ∧ n ≤ 59) (hhas : ∀ j, j < xs.length → Fld.has (acc j) (sp j : Int) = false ∧ acc (j + 1) = acc j + 2 ^ sp j ∧ acc j < 2 ^ 60 ∧ sp j ≤ 59)
    (hI : ∀ W, Calls Tryd.prog 53 #[.int .i64 (k : Int), .string (ba l)] W fun e w' => ∃ v, e = .returned (.tuple #[v, .int .i64 0]) ∧ RowN W v xs w') (w : World) :
    Calls Tryd.prog 46 #[.int .i64 (k : Int), .string (ba l)] w fun e w' => e = .returned (.tuple #[fval (acc xs.length) star, .int .i64 0]) ∧ Below w.heap.size w w' := by
  have hsz : (ba l).size = l.length := ba_size l
  have hst2 : (((((ba l)[0]'(by rw [hsz]; omega)).toNat : Nat) : Int) == 42) = star := hst
  have q150 : decide ((150 : Int) < (l.length : Int)) = false := by simp; omega
  have k0 : ¬ ((k : Int) < 0) := by omega
  have k4 : ¬ (4 < (k : Int)) := by omega
  have SP := Lib.hid (fun W => rsplit_any l (by omega) 44 44 rfl W)
  have ecut : Lib.split l [44] = [l] := cut_one _ _ h44
  have HI := Lib.hid hI
  have HSP := Lib.hid hsp
  have HHAS := Lib.hid hhas
  have H0 := Lib.hid h0
  have O := Lib.hid (OwnF.new w 0 false)
  clear hI hsp hhas h0 h44
  clear hst
  go_enter Tryd.func46, Tryd.ntmps46
  go_wp2_with fail
  with_reducible refine (SP.out _).mono ?_
  rintro e w1 ⟨v, rfl, hrow⟩
  rw [ecut] at hrow
  obtain ⟨gi, cap, rfl, hcap, hg, hcell⟩ := hrow.some (by simp)
  have hr0 := heap_alloc_new w (.cells #[.int .u64 0, .bool false] 24)
  have hs0 : (w.alloc (.cells #[.int .u64 0, .bool false] 24)).heap.size = w.heap.size + 1 := by simp
  have hb0 : Below w.heap.size w (w.alloc (.cells #[.int .u64 0, .bool false] 24)) := (Below.refl _ _).alloc (Nat.le_refl _) _
  generalize w.alloc (.cells #[.int .u64 0, .bool false] 24) = wA at *
  have hr1 := heap_alloc_new wA (.cells #[.int .u64 0, .bool star] 24)
  have hs1 : (wA.alloc (.cells #[.int .u64 0, .bool star] 24)).heap.size = wA.heap.size + 1 := by simp
  have hb1 : Below wA.heap.size wA (wA.alloc (.cells #[.int .u64 0, .bool star] 24)) := (Below.refl _ _).alloc (Nat.le_refl _) _
  generalize wA.alloc (.cells #[.int .u64 0, .bool star] 24) = wB at *
  rw [hs0] at hr1 hs1 hb1
  have hgi : w.heap.size + 1 ≠ gi := by omega
  have p1 : RP w 0 star gi l w1 := ⟨(hb0.trans (hb1.mono (by omega))).trans (hrow.bel.mono (by omega)), (hrow.bel.block _ (by omega)).trans ((hb1.block _ (by omega)).trans hr0), (hrow.bel.block _ (by omega)).trans hr1, hcell 0 _ rfl⟩
  have hcap1 : 1 ≤ cap := hcap
  have HP1 := Lib.hid p1
  clear hrow hcell hcap hr0 hs0 hb0 hr1 hs1 hb1 p1 SP O hg
  go_wp2_with fail
  go_loopg [8] 1 (fun g t wx => ∃ i : Nat, i + g = 1 ∧ t = .int .i64 (i : Int) ∧ RP w (if i = 0 then 0 else acc xs.length) star gi l wx)
  case atStart => exact ⟨0, by omega, rfl, HP1.out⟩
  case round =>
    obtain ⟨i, hig, rfl, rp⟩ := hrel
    cases gk with
    | zero =>
      obtain rfl : i = 1 := by omega
      rw [if_neg (by decide)] at rp
      have HR := Lib.hid rp
      have c0 := cell_of_row _ _ 0 _ _ _ rp.res
      have c1 := cell_of_row _ _ 1 _ _ _ rp.res
      have d0 := cell_of_row _ _ 0 _ _ _ rp.fld
      have d1 := cell_of_row _ _ 1 _ _ _ rp.fld
      have f0 := row_free rp.res 0
      have f1 := row_free rp.res 1
      clear rp
      go_wp2_with fail
      have hbF : Below w.heap.size w ((wr.setCell ⟨w.heap.size, 0, none⟩ (.int .u64 (acc xs.length : Int))).setCell ⟨w.heap.size, 1, none⟩ (.bool star)) := (HR.out.bel.setCell (p := ⟨w.heap.size, 0, none⟩) (Nat.le_refl _) _).setCell (p := ⟨w.heap.size, 1, none⟩) (Nat.le_refl _) _
      have hrF : ((wr.setCell ⟨w.heap.size, 0, none⟩ (.int .u64 (acc xs.length : Int))).setCell ⟨w.heap.size, 1, none⟩ (.bool star)).heap[w.heap.size]? = some (fobj (acc xs.length) star) := row_set (row_set HR.out.res 0 _) 1 _
      clear c0 c1 d0 d1 f0 f1
      generalize (wr.setCell ⟨w.heap.size, 0, none⟩ (.int .u64 (acc xs.length : Int))).setCell ⟨w.heap.size, 1, none⟩ (.bool star) = WF at *
      have c0 := cell_of_row _ _ 0 _ _ _ hrF
      have c1 := cell_of_row _ _ 1 _ _ _ hrF
      refine bodyPost_ret (v := .tuple #[fval (acc xs.length) star, .int .i64 0]) (by simp [results, Tryd.results46, go_sem, c0, c1, fval]) rfl ⟨rfl, hbF⟩
    | succ g =>
      obtain rfl : i = 0 := by omega
      obtain rfl : g = 0 := by omega
      rw [if_pos rfl] at rp
      have HR := Lib.hid rp
      have ci := rp.itm
      clear rp
      go_wp2_with fail
      with_reducible refine (HI.out _).mono ?_
      rintro e w2 ⟨v2, rfl, hrow⟩
      obtain ⟨gn, capn, rfl, hcapn, hgn, hcell⟩ := hrow.some hxs
      have hgn2 : w.heap.size + 1 ≠ gn := by have := lt_of_block HR.out.fld; omega
      have HR2 := Lib.hid (HR.out.below hrow.bel)
      have HC := Lib.hid hcell
      have HCN := Lib.hid hcapn
      clear hrow hcell hcapn hgn ci HR
      go_wp2_with fail
      go_loopg [11] xs.length (fun g t wx => ∃ j : Nat, j + g = xs.length ∧ t = .int .i64 (j : Int) ∧ RP w (acc j) star gi l wx ∧ ∀ (q : Nat) x, xs[q]? = some x → wx.cell? ⟨gn, q, none⟩ = some (.int .i64 (x : Int)))
      case atStart => exact ⟨0, by omega, rfl, by rw [H0.out]; exact HR2.out, HC.out⟩
      case round =>
        obtain ⟨j, hjg, rfl, rp, hcell⟩ := hrel
        have HR3 := Lib.hid rp
        have HC3 := Lib.hid hcell
        clear rp hcell
        cases gk with
        | zero =>
          obtain rfl : j = xs.length := by omega
          have hge : ¬ ((xs.length : Int) < (xs.length : Int)) := by omega
          go_wp2_with fail
          go_roundg 0
          case measure => omega
          case rel => exact ⟨1, by omega, by go_num, HR3.out⟩
        | succ g =>
          have hj : j < xs.length := by omega
          have hlt : (j : Int) < (xs.length : Int) := by omega
          obtain ⟨n, hn⟩ : ∃ n, xs[j]? = some n := ⟨xs[j], List.getElem?_eq_getElem hj⟩
          have cn := HC3.out j n hn
          obtain ⟨s1, s2⟩ := HSP.out j n hn
          obtain ⟨t1, t2, t3, t4⟩ := HHAS.out j hj
          have CH := refHas_any (acc j) (by omega) star (sp j : Int)
          rw [t1] at CH
          have CH := Lib.hid CH
          have c0 := cell_of_row _ _ 0 _ _ _ HR3.out.fld
          have c1 := cell_of_row _ _ 1 _ _ _ HR3.out.fld
          have hgn3 : w.heap.size + 1 ≠ gi := hgi
          by_cases h4 : k = 4
          · have q4 : ((k : Int) == 4) = true := by simp; omega
            have H4 := Lib.hid h4
            by_cases h7 : n = 7
            · rw [if_pos ⟨h4, h7⟩] at s1
              rw [s1] at CH t2 t4
              have CH := CH.out
              rw [show ((0 : Nat) : Int) = 0 from rfl] at CH
              have CH := Lib.hid CH
              subst h7
              clear h4
              clear s1 s2
              go_wp2_with fail
              with_reducible refine (CH.out _).mono ?_
              rintro e w5 ⟨rfl, hb5⟩
              have HR5 := Lib.hid (HR3.out.below hb5)
              have HC5 := Lib.hid (fun (q : Nat) x hq => stays hb5 (HC3.out q x hq))
              clear hb5 c0 c1 cn CH
              have c0 := cell_of_row _ _ 0 _ _ _ HR5.out.fld
              have f0 := row_free HR5.out.fld 0
              have HRN := Lib.hid (HR5.out.set hgn3 (acc (j + 1)))
              have HCN2 := Lib.hid (fun (q : Nat) x hq => (cell_else (j := 0) (v := .int .u64 ((acc (j + 1) : Nat) : Int)) hgn2).trans (HC5.out q x hq))
              have HV : Hid ((acc j : Int) + 1 = ((acc (j + 1) : Nat) : Int)) := Lib.hid (by rw [t2]; norm_cast)
              go_wp2_with fail
              go_roundg g
              case measure => omega
              case rel => exact ⟨j + 1, by omega, by go_num, by rw [HV.out]; exact HRN.out, by rw [HV.out]; exact HCN2.out⟩
            · rw [if_neg (fun h => h7 h.2)] at s1
              rw [s1] at CH t2 t4
              have q7 : ((n : Int) == 7) = false := by simp; omega
              clear h4 h7
              clear s1 s2
              go_wp2_with fail
              with_reducible refine (CH.out _).mono ?_
              rintro e w5 ⟨rfl, hb5⟩
              have HR5 := Lib.hid (HR3.out.below hb5)
              have HC5 := Lib.hid (fun (q : Nat) x hq => stays hb5 (HC3.out q x hq))
              clear hb5 c0 c1 cn CH
              have c0 := cell_of_row _ _ 0 _ _ _ HR5.out.fld
              have f0 := row_free HR5.out.fld 0
              have HRN := Lib.hid (HR5.out.set hgn3 (acc (j + 1)))
              have HCN2 := Lib.hid (fun (q : Nat) x hq => (cell_else (j := 0) (v := .int .u64 ((acc (j + 1) : Nat) : Int)) hgn2).trans (HC5.out q x hq))
              have HV : Hid (IntKind.u64.wrap ((acc j : Int) + IntKind.u64.wrap ((2 : Int) ^ n)) = ((acc (j + 1) : Nat) : Int)) := Lib.hid (by
                have hp : 2 ^ n ≤ 2 ^ 59 := Nat.pow_le_pow_right (by decide) (by omega)
                rw [pow_u64 n (by omega), t2, show (acc j : Int) + ((2 ^ n : Nat) : Int) = ((acc j + 2 ^ n : Nat) : Int) by norm_cast]
                exact nat_u64 _ (by omega))
              go_wp2_with fail
              go_roundg g
              case measure => omega
              case rel => exact ⟨j + 1, by omega, by go_num, by rw [HV.out]; exact HRN.out, by rw [HV.out]; exact HCN2.out⟩
          · have q4 : ((k : Int) == 4) = false := by simp; omega
            rw [if_neg (fun h => h4 h.1)] at s1
            rw [s1] at CH t2 t4
            clear s1 s2
            go_wp2_with fail
            with_reducible refine (CH.out _).mono ?_
            rintro e w5 ⟨rfl, hb5⟩
            have HR5 := Lib.hid (HR3.out.below hb5)
            have HC5 := Lib.hid (fun (q : Nat) x hq => stays hb5 (HC3.out q x hq))
            clear hb5 c0 c1 cn CH
            have c0 := cell_of_row _ _ 0 _ _ _ HR5.out.fld
            have f0 := row_free HR5.out.fld 0
            have HRN := Lib.hid (HR5.out.set hgn3 (acc (j + 1)))
            have HCN2 := Lib.hid (fun (q : Nat) x hq => (cell_else (j := 0) (v := .int .u64 ((acc (j + 1) : Nat) : Int)) hgn2).trans (HC5.out q x hq))
            have HV : Hid (IntKind.u64.wrap ((acc j : Int) + IntKind.u64.wrap ((2 : Int) ^ n)) = ((acc (j + 1) : Nat) : Int)) := Lib.hid (by
              have hp : 2 ^ n ≤ 2 ^ 59 := Nat.pow_le_pow_right (by decide) (by omega)
              rw [pow_u64 n (by omega), t2, show (acc j : Int) + ((2 ^ n : Nat) : Int) = ((acc j + 2 ^ n : Nat) : Int) by norm_cast]
              exact nat_u64 _ (by omega))
            go_wp2_with fail
            go_roundg g
            case measure => omega
            case rel => exact ⟨j + 1, by omega, by go_num, by rw [HV.out]; exact HRN.out, by rw [HV.out]; exact HCN2.out⟩
end Go.Proofs.YtgcineaodfomeaaDoor
