/- The reference's Has, place, twice, Same, by their contracts. -/
import Derived.Test.YthbaldjdfehhlaaNod13
import Derived.BigQuiet
namespace Go.Proofs.Ythbaldjdfehhlaa
open Go.RowKit Gr

set_option maxRecDepth 100000 in
set_option maxHeartbeats 1000000 in
theorem refHas_any {w : World} {a : Option Addr} {zs : List Int} {c : Nat} (hz : NumsF w a zs) (hl : zs.length ≤ 1000000) (n : Int) :
    Calls Try.prog 18 #[.slice a zs.length c, .int .u64 n] w fun e w' => e = .returned (.bool (zs.contains n)) ∧ w' = w := by
  obtain ⟨⟨g, q, ha, hc⟩, hfit⟩ := hz
  have HA := Lib.hid ha
  have HC := Lib.hid hc
  obtain ⟨r, hr⟩ : ∃ r, r = zs.contains n := ⟨_, rfl⟩
  rw [← hr]
  have HR := Lib.hid hr
  clear ha hc hfit hr
  go_enter Try.func18, Try.ntmps18
  go_wp2
  go_loopw [5] (fun v wr => wr = w ∧ ∃ i : Nat, v = .int .i64 (i : Int) ∧ i ≤ zs.length ∧ ∀ j (hj : j < zs.length), j < i → zs[j] ≠ n) (fun v _ => zs.length - (intOf v).toNat)
  case atStart => exact ⟨rfl, 0, rfl, Nat.zero_le _, fun j _ hj => absurd hj (by omega)⟩
  case round =>
    obtain ⟨rfl, i, rfl, hi, hall⟩ := hrel
    have HALL := Lib.hid hall
    clear hall
    by_cases hlt : i < zs.length
    · obtain ⟨hg, hc⟩ := HC.out i hlt
      have ea := HA.out (by intro e; subst e; simp at hlt)
      cases ea
      have hd : decide ((i : Int) < (zs.length : Int)) = true := by simp; omega
      obtain ⟨x, hx⟩ : ∃ x, zs[i] = x := ⟨_, rfl⟩
      rw [hx] at hc
      have HX := Lib.hid hx
      clear hx
      by_cases he : x = n
      · go_wp2
        go_ret
        have : zs.contains n = true := List.contains_iff_mem.2 (he ▸ HX.out ▸ List.getElem_mem hlt)
        refine ⟨?_, by first | rfl | trivial⟩
        rw [HR.out, this]
        rfl
      · go_wp2
        go_roundw
        case rel => exact ⟨by first | rfl | trivial, i + 1, by go_num, by omega, fun j hj hji => by
          rcases Nat.lt_or_ge j i with h1 | h1
          · exact HALL.out j hj h1
          · obtain rfl : j = i := by omega
            rw [HX.out]
            exact he⟩
        case measure => simp [intOf]; omega
    · have hd : decide ((i : Int) < (zs.length : Int)) = false := by simp; omega
      go_wp2
      go_ret
      have : zs.contains n = false := by
        cases hcn : zs.contains n with
        | false => rfl
        | true =>
          obtain ⟨j, hj, hje⟩ := List.getElem_of_mem (List.contains_iff_mem.1 hcn)
          exact absurd hje (HALL.out j hj (by omega))
      refine ⟨?_, by first | rfl | trivial⟩
      rw [HR.out, this]
      rfl

/-- an Id's place, or -1 -/
def placeOf : List NodeV → Nat → Int → Int
  | [], _, _ => -1
  | v :: l, k, n => if v.id = n then (k : Int) else placeOf l (k + 1) n
theorem placeOf_there {l : List NodeV} {n : Int} : ∀ {k : Nat}, 0 ≤ placeOf l k n ↔ n ∈ ids (rowOf l) := by
  rw [rowOf_ids]
  induction l with
  | nil => intro k; simp [placeOf]
  | cons v l ih =>
    intro k
    simp only [placeOf]
    split
    · rename_i e; subst e; simp
    · rename_i e
      rw [ih]
      simp [Ne.symm e]
theorem placeOf_le {l : List NodeV} {n : Int} : ∀ {k : Nat}, -1 ≤ placeOf l k n ∧ placeOf l k n ≤ k + l.length := by
  induction l with
  | nil => intro k; simp [placeOf]
  | cons v l ih =>
    intro k
    simp only [placeOf, List.length_cons]
    split
    · omega
    · have := ih (k := k + 1)
      omega

set_option maxRecDepth 100000 in
set_option maxHeartbeats 1000000 in
theorem refPlace_any {w : World} {a : Option Addr} {l : List NodeV} {c : Nat} (hN : NodesF w a l) (hl : l.length ≤ 1000000) (n : Int) :
    Calls Try.prog 22 #[.slice a l.length c, .int .u64 n] w fun e w' => e = .returned (.int .i64 (placeOf l 0 n)) ∧ w' = w := by
  obtain ⟨⟨g, q, ha, hc⟩, hfit⟩ := hN
  have HA := Lib.hid ha
  have HC := Lib.hid hc
  clear ha hc hfit
  obtain ⟨r, hr⟩ : ∃ r, r = placeOf l 0 n := ⟨_, rfl⟩
  rw [← hr]
  have HR := Lib.hid hr
  clear hr
  go_enter Try.func22, Try.ntmps22
  go_wp2
  go_loopw [5] (fun v wr => wr = w ∧ ∃ i : Nat, v = .int .i64 (i : Int) ∧ i ≤ l.length ∧ placeOf l 0 n = placeOf (l.drop i) i n) (fun v _ => l.length - (intOf v).toNat)
  case atStart => exact ⟨rfl, 0, rfl, Nat.zero_le _, rfl⟩
  case round =>
    obtain ⟨rfl, i, rfl, hi, hall⟩ := hrel
    have HALL := Lib.hid hall
    clear hall
    by_cases hlt : i < l.length
    · obtain ⟨hg, hc1, hc2⟩ := HC.out i hlt
      have ea := HA.out (by intro e; subst e; simp at hlt)
      cases ea
      have hd : decide ((i : Int) < (l.length : Int)) = true := by simp; omega
      have hdr : l.drop i = l[i] :: l.drop (i + 1) := List.drop_eq_getElem_cons hlt
      obtain ⟨x, hx⟩ : ∃ x, l[i] = x := ⟨_, rfl⟩
      rw [hx] at hc1 hc2 hdr
      have HX := Lib.hid hdr
      clear hx hdr
      by_cases he : x.id = n
      · go_wp2
        go_ret
        refine ⟨?_, by first | rfl | trivial⟩
        rw [HR.out, HALL.out, HX.out]
        simp only [placeOf, if_pos he]
        rfl
      · go_wp2
        go_roundw
        case rel => exact ⟨by first | rfl | trivial, i + 1, by go_num, by omega, by rw [HALL.out, HX.out]; simp only [placeOf, if_neg he]⟩
        case measure => simp [intOf]; omega
    · have hd : decide ((i : Int) < (l.length : Int)) = false := by simp; omega
      go_wp2
      go_ret
      refine ⟨?_, by first | rfl | trivial⟩
      rw [HR.out, HALL.out, List.drop_eq_nil_of_le (by omega)]
      rfl

set_option maxRecDepth 100000 in
set_option maxHeartbeats 1000000 in
theorem refSame_any {w : World} {a b : Option Addr} {xs ys : List Int} {c d : Nat} (hx : NumsF w a xs) (hy : NumsF w b ys) (hlx : xs.length ≤ 1000000) :
    Calls Try.prog 12 #[.slice a xs.length c, .slice b ys.length d] w fun e w' => e = .returned (.bool (decide (xs = ys))) ∧ Drew w w' := by
  obtain ⟨⟨g, q, ha, hc⟩, hfit⟩ := hx
  obtain ⟨⟨g2, q2, ha2, hc2⟩, hfit2⟩ := hy
  have HA := Lib.hid ha
  have HC := Lib.hid hc
  have HA2 := Lib.hid ha2
  have HC2 := Lib.hid hc2
  clear ha hc hfit ha2 hc2 hfit2
  by_cases hlen : xs.length = ys.length
  · obtain ⟨L, hL⟩ : ∃ L, L = ys.length := ⟨_, rfl⟩
    have hLx : xs.length = L := by omega
    have hLm : L ≤ 1000000 := by omega
    rw [← hL, hLx]
    have HL := Lib.hid hL
    have HLX := Lib.hid hLx
    clear hL hLx hlen hlx
    go_enter Try.func12, Try.ntmps12
    go_wp2
    go_loopw [5] (fun v wr => Drew w wr ∧ ∃ i : Nat, v = .int .i64 (i : Int) ∧ i ≤ L ∧ ∀ j (hj : j < xs.length) (hj2 : j < ys.length), j < i → xs[j] = ys[j]) (fun v _ => L - (intOf v).toNat)
    case atStart => exact ⟨Drew.refl _, 0, rfl, Nat.zero_le _, fun j _ _ hj => absurd hj (by omega)⟩
    case round =>
      obtain ⟨hb, i, rfl, hi, hall⟩ := hrel
      have HALL := Lib.hid hall
      have HB := Lib.hid hb
      clear hall hb
      by_cases hlt : i < L
      · have h1 : i < xs.length := by have := HLX.out; omega
        have h2 : i < ys.length := by have := HL.out; omega
        obtain ⟨hg, hc⟩ := HC.out i h1
        obtain ⟨hg2, hc2⟩ := HC2.out i h2
        have hcb := (HB.out.bel.cell (p := ⟨g, q + i, none⟩) hg).trans hc
        have hcb2 := (HB.out.bel.cell (p := ⟨g2, q2 + i, none⟩) hg2).trans hc2
        have ea := HA.out (by intro e; subst e; simp at h1)
        have ea2 := HA2.out (by intro e; subst e; simp at h2)
        cases ea
        cases ea2
        have hd : decide ((i : Int) < (L : Int)) = true := by simp; omega
        obtain ⟨x, hx⟩ : ∃ x, xs[i] = x := ⟨_, rfl⟩
        obtain ⟨y, hy⟩ : ∃ y, ys[i] = y := ⟨_, rfl⟩
        rw [hx] at hcb
        rw [hy] at hcb2
        have HX := Lib.hid hx
        have HY := Lib.hid hy
        clear hx hy hc hc2 hg hg2
        by_cases he : x = y
        · go_wp2_with fail
          go_region
          go_wp2
          go_roundw
          case rel => exact ⟨HB.out.more _, i + 1, by go_num, by omega, fun j hj hj2 hji => by
            rcases Nat.lt_or_ge j i with h1 | h1
            · exact HALL.out j hj hj2 h1
            · obtain rfl : j = i := by omega
              rw [HX.out, HY.out]
              exact he⟩
          case measure => simp [intOf]; omega
        · go_wp2_with fail
          go_region
          go_wp2
          go_ret
          have : xs ≠ ys := fun e => by
            subst e
            exact he (HX.out.symm.trans HY.out)
          exact ⟨by rw [decide_eq_false this]; rfl, HB.out.more _⟩
      · have hd : decide ((i : Int) < (L : Int)) = false := by simp; omega
        go_wp2
        go_ret
        refine ⟨?_, HB.out⟩
        have : xs = ys := List.ext_getElem (by rw [HLX.out, HL.out]) fun j h1 h2 => HALL.out j h1 h2 (by have := HL.out; omega)
        rw [decide_eq_true this]
        rfl
  · have hd0 : decide ((xs.length : Int) = (ys.length : Int)) = false := by simp; omega
    have hd1 : ¬ (xs.length : Int) = (ys.length : Int) := by omega
    have hne : xs ≠ ys := fun e => hlen (by rw [e])
    have HNE := Lib.hid hne
    clear hne
    go_enter Try.func12, Try.ntmps12
    go_wp2
    go_ret
    exact ⟨by rw [decide_eq_false HNE.out]; rfl, Drew.refl _⟩

set_option maxRecDepth 100000 in
set_option maxHeartbeats 1000000 in
theorem refTwice_any {w : World} {a : Option Addr} {zs : List Int} {c : Nat} (hz : NumsF w a zs) (hl : zs.length ≤ 1000) (hc : zs.length ≤ c) (hcm : c ≤ maxLen) :
    Calls Try.prog 23 #[.slice a zs.length c] w fun e w' => e = .returned (.bool (Gr.twice zs)) ∧ Drew w w' := by
  have HZ := Lib.hid hz
  obtain ⟨⟨g, q, ha, hcc⟩, hfit⟩ := hz
  have HA := Lib.hid ha
  have HC := Lib.hid hcc
  obtain ⟨r, hr⟩ : ∃ r, r = Gr.twice zs := ⟨_, rfl⟩
  rw [← hr]
  have HR := Lib.hid hr
  have hcm2 : c ≤ 9223372036854775807 := by unfold maxLen at hcm; omega
  clear ha hcc hfit hr hcm
  go_enter Try.func23, Try.ntmps23
  go_wp2
  go_loopw [3] (fun v wr => Drew w wr ∧ ∃ i : Nat, v = .int .i64 (i : Int) ∧ i ≤ zs.length ∧ ∀ j (hj : j < zs.length), j < i → zs[j] ∉ zs.take j) (fun v _ => zs.length - (intOf v).toNat)
  case atStart => exact ⟨Drew.refl _, 0, rfl, Nat.zero_le _, fun j _ hj => absurd hj (by omega)⟩
  case round =>
    obtain ⟨hb, i, rfl, hi, hall⟩ := hrel
    have HALL := Lib.hid hall
    have HB := Lib.hid hb
    clear hall hb
    by_cases hlt : i < zs.length
    · obtain ⟨hg, hcx⟩ := HC.out i hlt
      have ea := HA.out (by intro e; subst e; simp at hlt)
      cases ea
      have hcb := (HB.out.bel.cell (p := ⟨g, q + i, none⟩) hg).trans hcx
      have hd : decide ((i : Int) < (zs.length : Int)) = true := by simp; omega
      have htl : (zs.take i).length = i := by rw [List.length_take]; omega
      have hH := fun (W : World) (hW : Below wr.heap.size wr W) => refHas_any (c := c) (((HZ.out.below HB.out.bel).take i).below hW) (by omega) zs[i]
      rw [htl] at hH
      obtain ⟨x, hx⟩ : ∃ x, zs[i] = x := ⟨_, rfl⟩
      rw [hx] at hcb hH
      have HX := Lib.hid hx
      obtain ⟨s, hs⟩ : ∃ s, s = (zs.take i).contains x := ⟨_, rfl⟩
      rw [← hs] at hH
      have HS := Lib.hid hs
      have hH' : ∀ n, Calls Try.prog 18 #[.slice (some ⟨g, q, none⟩) i c, .int .u64 x] (wr.drewN n) fun e w' => e = .returned (.bool s) ∧ w' = wr.drewN n := fun n => hH _ (bel_drewN (Below.refl _ _) n)
      have HH := Lib.hid hH'
      clear hx hcx hg htl hH hs hH'
      have hic : i ≤ c := by omega
      cases s with
      | true =>
        go_wp2_with fail
        go_quiet (first | (go_at_call 18; exact Calls.quiet_of_same (HH.out _)))
        go_wp2
        go_ret
        have : Gr.twice zs = true := by
          simp only [Gr.twice, Bool.not_eq_true', decide_eq_false_iff_not]
          intro hn
          obtain ⟨j, hj, hje⟩ := List.mem_take_iff_getElem.1 (List.contains_iff_mem.1 HS.out.symm)
          exact List.pairwise_iff_getElem.1 hn j i (by omega) hlt (by omega) (hje.trans HX.out.symm)
        exact ⟨by rw [HR.out, this]; rfl, HB.out.more _⟩
      | false =>
        go_wp2_with fail
        go_quiet (first | (go_at_call 18; exact Calls.quiet_of_same (HH.out _)))
        go_wp2
        go_roundw
        case rel => exact ⟨HB.out.more _, i + 1, by go_num, by omega, fun j hj hji => by
          rcases Nat.lt_or_ge j i with h1 | h1
          · exact HALL.out j hj h1
          · obtain rfl : j = i := by omega
            rw [HX.out]
            intro hm
            have := HS.out
            rw [List.contains_iff_mem.2 hm] at this
            cases this⟩
        case measure => simp [intOf]; omega
    · have hd : decide ((i : Int) < (zs.length : Int)) = false := by simp; omega
      go_wp2
      go_ret
      have : Gr.twice zs = false := by
        simp only [Gr.twice, Bool.not_eq_false', decide_eq_true_eq]
        refine List.pairwise_iff_getElem.2 fun j k hj hk hjk e => ?_
        refine HALL.out k hk (by omega) ?_
        rw [← e]
        exact List.mem_take_iff_getElem.2 ⟨j, by omega, rfl⟩
      exact ⟨by rw [HR.out, this]; rfl, HB.out⟩

end Go.Proofs.Ythbaldjdfehhlaa
