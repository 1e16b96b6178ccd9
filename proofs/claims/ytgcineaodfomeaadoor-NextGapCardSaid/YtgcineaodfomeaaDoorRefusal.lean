/- next.refusal: why a call refuses an expression and moments, by its contract. -/
import Derived.Test.YtgcineaodfomeaaDoorAskX
import Derived.Test.YtgcineaodfomeaaDoorFireM
import Derived.Test.YtgcineaodfomeaaDoorCSplitIn
namespace Go.Proofs.YtgcineaodfomeaaDoor
open Go.RowKit

def farOut (t : Int) : Bool := decide (t < 0) || decide (13569465600 ≤ t)
/-- what refusal tells -/
def refusedOf (m : Bool) (ts : List Int) : Int := if m = false then 2 else if ts.any farOut = true then 50 else 0
theorem refused_bad (ts : List Int) : refusedOf false ts = 2 := rfl
theorem refused_out {ts : List Int} {i : Nat} {t : Int} (h : ts[i]? = some t) (hf : farOut t = true) : refusedOf true ts = 50 := by
  unfold refusedOf
  rw [if_neg (by decide), if_pos (List.any_eq_true.2 ⟨t, List.mem_of_getElem? h, hf⟩)]
theorem refused_ok {ts : List Int} (h : ∀ (i : Nat) t, ts[i]? = some t → farOut t = false) : refusedOf true ts = 0 := by
  unfold refusedOf
  rw [if_neg (by decide), if_neg]
  intro hq
  obtain ⟨t, ht, hf⟩ := List.any_eq_true.1 hq
  obtain ⟨i, hi⟩ := List.mem_iff_getElem?.1 ht
  rw [h i t hi] at hf
  cases hf
theorem floor_any (t : Int) (w : World) : Calls Tryd.prog 32 #[.int .i64 t] w fun e w' => ∃ v, e = .returned (.tuple #[.int .i64 v, .int .i64 (bif farOut t then 50 else 0)]) ∧ Below w.heap.size w w' := by
  by_cases h : 0 ≤ t ∧ t < 13569465600
  · have hf : farOut t = false := by unfold farOut; simp; omega
    rw [hf]
    exact (Civ.floor_in t w h.1 h.2).mono fun e w' ⟨h1, h2⟩ => ⟨_, h1, h2⟩
  · have hf : farOut t = true := by unfold farOut; simp; omega
    rw [hf]
    exact (Civ.floor_out t w (by omega)).mono fun e w' ⟨h1, h2⟩ => ⟨_, h1, h2⟩
theorem may_dec (b : Nat → Nat) : Cron.may b = true ∨ Cron.may b = false := by cases Cron.may b <;> simp

set_option maxRecDepth 100000 in
set_option maxHeartbeats 4000000 in
theorem refusal_any (b : Nat → Nat) (s : Nat → Bool) (hb : ∀ k, k < 5 → b k < 2 ^ 64) (g cap : Nat) (ts : List Int) (hl : ts.length ≤ 100) (w : World) (hw : TabsOn w) (hg : g < w.heap.size)
    (hc : ∀ (i : Nat) t, ts[i]? = some t → w.cell? ⟨g, i, none⟩ = some (.int .i64 t)) :
    Calls Tryd.prog 15 #[xval b s, .slice (some ⟨g, 0, none⟩) ts.length cap] w fun e w' => e = .returned (.int .i64 (refusedOf (Cron.may b) ts)) ∧ Below w.heap.size w w' := by
  have o := OwnX.new w b s
  have O := Lib.hid o
  obtain ⟨c0, c1, c2, c3, c4, c5, c6, c7, c8, c9⟩ := xobj_cells o.row
  have HM := Lib.hid (mayX_any b s hb _ (hw.next o.bel))
  have HF := Lib.hid floor_any
  have HC := Lib.hid hc
  have HK := Lib.hid (@refused_ok ts)
  have HO := Lib.hid (fun (i : Nat) (t : Int) h hf => @refused_out ts i t h hf)
  clear o hw hc hb
  unfold xval xcells at *
  generalize hmv : Cron.may b = mv at *
  have HMV := Lib.hid hmv
  clear hmv
  obtain ⟨R, hR⟩ : ∃ R, R = refusedOf mv ts := ⟨_, rfl⟩
  rw [← hR]
  have HR := Lib.hid hR
  clear hR
  go_enter Tryd.func15, Tryd.ntmps15
  go_wp2_with fail
  with_reducible refine HM.out.mono ?_
  rintro e w1 ⟨rfl, hb1⟩
  have O1 := Lib.hid (O.out.below hb1)
  have bel1 := Lib.hid O1.out.bel
  clear c0 c1 c2 c3 c4 c5 c6 c7 c8 c9 hb1 O HM
  cases mv
  · go_wp2_with fail
    go_ret
    exact ⟨by rw [HR.out]; rfl, bel1.out⟩
  · go_wp2_with fail
    go_loopg [14] ts.length (fun gh t14 wr => Below w.heap.size w wr ∧ ∃ i : Nat, i + gh = ts.length ∧ t14 = .int .i64 i ∧ ∀ (j : Nat) t, j < i → ts[j]? = some t → farOut t = false)
    case atStart => exact ⟨bel1.out, 0, by omega, rfl, fun j t hj _ => absurd hj (by omega)⟩
    case round =>
      obtain ⟨hbx, i, hig, rfl, hno⟩ := hrel
      have HN := Lib.hid hno
      have HB := Lib.hid hbx
      clear hno
      cases gk with
      | zero =>
        obtain rfl : i = ts.length := by omega
        clear hbx
        go_wp2_with fail
        go_ret
        exact ⟨by rw [HR.out, HK.out fun j t hj => HN.out j t (List.getElem?_eq_some_iff.1 hj).1 hj]; rfl, HB.out⟩
      | succ gh =>
        have hi : i < ts.length := by omega
        obtain ⟨t, ht⟩ : ∃ t, ts[i]? = some t := ⟨_, List.getElem?_eq_getElem hi⟩
        have hcell := (hbx.cell (p := ⟨g, i, none⟩) hg).trans (HC.out i t ht)
        have HT := Lib.hid ht
        clear hbx ht
        go_wp2_with fail
        with_reducible refine (HF.out t _).mono ?_
        rintro e w2 ⟨v, rfl, hb2⟩
        have HB2 := Lib.hid (HB.out.trans (hb2.mono HB.out.size))
        clear hb2 hcell
        cases hft : farOut t
        · have HFT := Lib.hid hft
          clear hft
          simp only [cond_false]
          go_wp2_with fail
          go_roundg gh
          case measure => omega
          case rel => exact ⟨HB2.out, i + 1, by omega, by go_num, fun j u hj hu => by
            by_cases e : j = i
            · subst e
              rw [HT.out] at hu
              obtain rfl := Option.some.inj hu
              exact HFT.out
            · exact HN.out j u (by omega) hu⟩
        · have HFT := Lib.hid hft
          clear hft
          simp only [cond_true]
          go_wp2_with fail
          go_ret
          exact ⟨by rw [HR.out, HO.out _ _ HT.out HFT.out]; rfl, HB2.out⟩
end Go.Proofs.YtgcineaodfomeaaDoor
