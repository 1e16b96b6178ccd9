/- The law's own comparison of two rows, by its contract; a lot in a block, changed. -/
import Derived.Test.YtkhajpefnkialaaJudge
namespace Go.Proofs.Ytkhajpefnkialaa.Job
open Go.RowKit

theorem lt_of_block {W : World} {B : Nat} {o : Obj} (h : W.heap[B]? = some o) : B < W.heap.size := (Array.getElem?_eq_some_iff.1 h).1
theorem row_set {w : World} {B : Nat} {c : Array Value} {t : TypeId} {f : Nat × Nat} (hr : w.heap[B]? = some (.cells c t f)) (j : Nat) (v : Value) : (w.setCell ⟨B, j, none⟩ v).heap[B]? = some (.cells (c.setIfInBounds j v) t f) := by
  have hlt := lt_of_block hr
  have h' : w.heap[B] = .cells c t f := by simpa [Array.getElem?_eq_getElem hlt] using hr
  show (w.heap.modify B _)[B]? = _
  rw [Array.getElem?_eq_getElem (by simpa using hlt), Array.getElem_modify_self, h']
  rfl
theorem lset_pol {W : World} {B : Nat} {l : Lt} (h : W.heap[B]? = some (lobj l)) (x : Int) : (W.setCell ⟨B, 0, none⟩ (.int .i64 x)).heap[B]? = some (lobj { l with pol := x }) := (row_set h 0 _).trans rfl
theorem lset_room {W : World} {B : Nat} {l : Lt} (h : W.heap[B]? = some (lobj l)) (x : Int) : (W.setCell ⟨B, 5, none⟩ (.int .i64 x)).heap[B]? = some (lobj { l with room := x }) := (row_set h 5 _).trans rfl
theorem lset_due {W : World} {B : Nat} {l : Lt} (h : W.heap[B]? = some (lobj l)) (a : Option Addr) (xs : List Int) (n c : Nat) (hn : n = xs.length) : (W.setCell ⟨B, 3, none⟩ (.slice a n c)).heap[B]? = some (lobj { l with da := a, ds := xs, dc := c }) := by
  subst hn
  exact (row_set h 3 _).trans rfl
theorem lset_come {W : World} {B : Nat} {l : Lt} (h : W.heap[B]? = some (lobj l)) : (W.setCell ⟨B, 4, none⟩ (.slice none 0 0)).heap[B]? = some (lobj { l with ca := none, cs := [], cc := 0 }) := (row_set h 4 _).trans rfl
theorem lfree {W : World} {B : Nat} {l : Lt} (h : W.heap[B]? = some (lobj l)) (i : Nat) : W.frozen? ⟨B, i, none⟩ = false := by simp [World.frozen?, h, lobj]
theorem set_else {W : World} {B C : Nat} {j : Nat} {v : Value} (h : C ≠ B) : (W.setCell ⟨C, j, none⟩ v).heap[B]? = W.heap[B]? := Below.heap_setCell _ _ _ _ (fun e => h e.symm)

theorem same_any {w : World} {a b : Option Addr} {xs ys : List Int} {c d : Nat} (hx : Vals w a (xs.map iv)) (hy : Vals w b (ys.map iv)) (hlx : xs.length ≤ 1000000) :
    Calls Try.prog 7 #[.slice a xs.length c, .slice b ys.length d] w fun e w' => e = .returned (.bool (decide (xs = ys))) ∧ Drew w w' := by
  obtain ⟨g, q, ha, hc⟩ := hx
  obtain ⟨g2, q2, ha2, hc2⟩ := hy
  have HA := Lib.hid ha
  have HC := Lib.hid hc
  have HA2 := Lib.hid ha2
  have HC2 := Lib.hid hc2
  clear ha hc ha2 hc2
  by_cases hlen : xs.length = ys.length
  · obtain ⟨L, hL⟩ : ∃ L, L = ys.length := ⟨_, rfl⟩
    have hLx : xs.length = L := by omega
    have hLm : L ≤ 1000000 := by omega
    rw [← hL, hLx]
    have HL := Lib.hid hL
    have HLX := Lib.hid hLx
    clear hL hLx hlen hlx
    go_enter Try.func7, Try.ntmps7
    go_wp2
    go_loopw [5] (fun v wr => Drew w wr ∧ ∃ i : Nat, v = .int .i64 (i : Int) ∧ i ≤ L ∧ ∀ j (hj : j < xs.length) (hj2 : j < ys.length), j < i → xs[j] = ys[j]) (fun v _ => L - (intOf v).toNat)
    case atStart => exact ⟨Drew.refl _, 0, rfl, Nat.zero_le _, fun j _ _ hj => absurd hj (by omega)⟩
    case round =>
      obtain ⟨hb, i, rfl, hi, hall⟩ := hrel
      have HALL := Lib.hid hall
      have HB := Lib.hid hb
      clear hall hb
      by_cases hlt : i < L
      · have h1 : i < xs.length := by have := HLX.out; omega
        have h2 : i < ys.length := by have := HL.out; omega
        obtain ⟨hg, hc⟩ := HC.out i (by simpa using h1)
        obtain ⟨hg2, hc2⟩ := HC2.out i (by simpa using h2)
        have hcb := (HB.out.bel.cell (p := ⟨g, q + i, none⟩) hg).trans hc
        have hcb2 := (HB.out.bel.cell (p := ⟨g2, q2 + i, none⟩) hg2).trans hc2
        have ea := HA.out (by intro e; have := congrArg List.length e; simp at this; subst this; simp at h1)
        have ea2 := HA2.out (by intro e; have := congrArg List.length e; simp at this; subst this; simp at h2)
        cases ea
        cases ea2
        have hd : decide ((i : Int) < (L : Int)) = true := by simp; omega
        obtain ⟨x, hx⟩ : ∃ x, xs[i] = x := ⟨_, rfl⟩
        obtain ⟨y, hy⟩ : ∃ y, ys[i] = y := ⟨_, rfl⟩
        rw [List.getElem_map, hx] at hcb
        rw [List.getElem_map, hy] at hcb2
        unfold iv at hcb hcb2
        have HX := Lib.hid hx
        have HY := Lib.hid hy
        clear hx hy hc hc2 hg hg2
        by_cases he : x = y
        · go_wp2_with fail
          go_region
          go_wp2
          go_roundw
          case rel => exact ⟨HB.out.more _, i + 1, by go_num, by omega, fun j hj hj2 hji => by
            rcases Nat.lt_or_ge j i with h1 | h1
            · exact HALL.out j hj hj2 h1
            · obtain rfl : j = i := by omega
              rw [HX.out, HY.out]
              exact he⟩
          case measure => simp [intOf]; omega
        · go_wp2_with fail
          go_region
          go_wp2
          go_ret
          have : xs ≠ ys := fun e => by
            subst e
            exact he (HX.out.symm.trans HY.out)
          exact ⟨by rw [decide_eq_false this]; rfl, HB.out.more _⟩
      · have hd : decide ((i : Int) < (L : Int)) = false := by simp; omega
        go_wp2
        go_ret
        refine ⟨?_, HB.out⟩
        have : xs = ys := List.ext_getElem (by rw [HLX.out, HL.out]) fun j h1 h2 => HALL.out j h1 h2 (by have := HL.out; omega)
        rw [decide_eq_true this]
        rfl
  · have hd0 : decide ((xs.length : Int) = (ys.length : Int)) = false := by simp; omega
    have hd1 : ¬ (xs.length : Int) = (ys.length : Int) := by omega
    have hne : xs ≠ ys := fun e => hlen (by rw [e])
    have HNE := Lib.hid hne
    clear hne
    go_enter Try.func7, Try.ntmps7
    go_wp2
    go_ret
    exact ⟨by rw [decide_eq_false HNE.out]; rfl, Drew.refl _⟩

end Go.Proofs.Ytkhajpefnkialaa.Job
