/- ordered, May and Order of package graph, by their contracts. -/
import Derived.Test.YtpbnjibomdilhaaGreatDoorGTwice13
import Derived.Test.YtpbnjibomdilhaaGreatDoorMau
import Derived.WalkMore
namespace Go.Proofs.YtpbnjibomdilhaaGreatDoor.Gph
open Go.RowKit Gr Go.Sort Go.Shelf Go.Lib Go.Maps

theorem set_row_ne {W : World} {b B : Nat} {S xs : List Int} {v : Value} (hs : SetAt W b S) (hr : RowU B v xs W) : some b ≠ v.ownBlock := by
  obtain ⟨D, ⟨es, clock, hb, _⟩, _⟩ := hs.map
  rcases hr.own.2 with ⟨rfl, _⟩ | ⟨g, cap, cur, rfl, _, hg, _⟩
  · simp [Value.ownBlock]
  · intro e
    obtain rfl : b = g := by simpa [Value.ownBlock] using e
    rw [hb] at hg
    cases hg
theorem RowU.only {W W' : World} {b B : Nat} {xs : List Int} {v : Value} (t : RowU B v xs W) (hg : W.grownBy W' (some b)) (hne : some b ≠ v.ownBlock) : RowU B v xs W' := by
  obtain ⟨h⟩ := t
  refine ⟨h.1, ?_⟩
  rcases h.2 with hn | ⟨g, cap, cur, rfl, hB, hgb, rest⟩
  · exact .inl hn
  · exact .inr ⟨g, cap, cur, rfl, hB, (hg.block g (Array.getElem?_eq_some_iff.1 hgb).1 (fun e => hne (by simpa [Value.ownBlock] using e.symm))).trans hgb, rest⟩

/-- those who have gone ahead: a row, and a set -/
structure GS (w : World) (b : Nat) (v : Value) (g : List Int) (W : World) : Prop where
  row : RowU b v g W
  set_ : SetAt W b g
  hb : w.heap.size ≤ b
  bel : Below w.heap.size w W
section
variable {w W W' : World} {b : Nat} {v : Value} {g : List Int}
theorem GS.below (t : GS w b v g W) (h : Below W.heap.size W W') : GS w b v g W' := ⟨t.row.below h, t.set_.below h, t.hb, t.bel.trans (h.mono t.bel.size)⟩
end

/-- of nodes by rising Ids the first that is ready is the next -/
theorem first_next {l l' : List NodeV} {g : List Int} (hp : l'.Perm l) (hs : (l'.map (·.id)).Pairwise (· ≤ ·)) {j : Nat} (hj : j < l'.length) (hr : ready g l'[j].node = true) (hn : ∀ i (h : i < l'.length), i < j → ready g l'[i].node = false) :
    next (rowOf l) g = some l'[j].id := by
  have h := best_next (l := l') (g := g) hj hr fun v hv hrv => by
    obtain ⟨i, hi, rfl⟩ := List.getElem_of_mem hv
    rcases Nat.lt_or_ge i j with h | h
    · rw [hn i hi h] at hrv; cases hrv
    · rcases Nat.lt_or_ge j i with h2 | h2
      · have := List.pairwise_iff_getElem.1 hs j i (by simpa using hj) (by simpa using hi) h2
        simpa using this
      · obtain rfl : i = j := by omega
        exact Int.le_refl _
  rw [← h]
  exact next_perm (hp.map _).symm g
theorem first_none {l l' : List NodeV} {g : List Int} (hp : l'.Perm l) (hn : ∀ i (h : i < l'.length), ready g l'[i].node = false) : next (rowOf l) g = none :=
  best_none fun v hv => by
    obtain ⟨i, hi, rfl⟩ := List.getElem_of_mem (hp.mem_iff.2 hv)
    exact hn i hi

set_option maxRecDepth 100000 in
set_option maxHeartbeats 4000000 in
theorem ordered_any {w : World} {a : Option Addr} {l : List NodeV} {c : Nat} (hN : NodesF w a l) (hl : l.length ≤ 1000) (hdl : ∀ v ∈ l, v.deps.length ≤ 100000) :
    Calls Tryz.prog 35 #[.slice a l.length c] w fun e w' => ∃ v, e = .returned v ∧ RowU w.heap.size v (orderOf (rowOf l)) w' ∧ Below w.heap.size w w' := by
  obtain ⟨i0, hi0, hz0, hz1, hz2⟩ := info_parts infoU64
  have hbA : Below w.heap.size w (w.alloc (.cells #[.slice a l.length c] 47)) := (Below.refl _ _).alloc (Nat.le_refl _) _
  have hcell : (w.alloc (.cells #[.slice a l.length c] 47)).cell? ⟨w.heap.size, 0, none⟩ = some (.slice a l.length c) := by
    rw [cell_of_row _ _ 0 _ _ _ (heap_alloc_new w _)]
    rfl
  have HSO := Lib.hid (sortedN_any w.heap.size a c l _ hcell (hN.below hbA) (by omega))
  have HBA := Lib.hid hbA
  have HE := Lib.hid hN.each
  have HD := Lib.hid hdl
  clear hN hbA hcell hdl
  have hmm := @run_makeMap Tryz.prog
  go_enter Tryz.func35, Tryz.ntmps35
  go_wp2_with fail
  go_step3
  go_wp2_with fail
  refine (valuesN_any _ _ _ _).mono ?_
  rintro e w1 ⟨rfl, rfl⟩
  go_wp2_with fail
  refine HSO.out.mono ?_
  rintro e w2 ⟨ra, rc, l', rfl, hpm, hpw, hN2, hb2⟩
  have hll := hpm.length_eq
  have hgs : GS w w2.heap.size (.slice none 0 0) [] (w2.alloc (.map #[] 0)) := by
    have hbb := HBA.out.trans (hb2.mono HBA.out.size)
    exact ⟨RowU.nil _ _, SetAt.made w2, hbb.size, hbb.alloc hbb.size _⟩
  have HGS := Lib.hid hgs
  have HN3 := Lib.hid hN2
  have HPM := Lib.hid hpm
  have HPW := Lib.hid hpw
  obtain ⟨b, hb⟩ : ∃ b, b = w2.heap.size := ⟨_, rfl⟩
  rw [← hb] at HGS
  have HB := Lib.hid hb
  have hbel0 : Below w2.heap.size w2 (w2.alloc (.map #[] 0)) := (Below.refl _ _).alloc (Nat.le_refl _) _
  rw [← hb] at hbel0
  have HBEL0 := Lib.hid hbel0
  have HLL := Lib.hid hll
  clear hpm hpw hN2 hb2 hgs HSO hb hbel0
  rw [hll]
  clear hll
  go_wp2
  rw [← HB.out]
  go_step3
  go_wp2_with fail
  go_loopg [4] (l.length + 1) (fun gh v4 wr => ∃ g : List Int, gh + g.length = l.length + 1 ∧ GS w b v4 g wr ∧ Below b w2 wr ∧ Runs (rowOf l) g (orderOf (rowOf l)) ∧ Gone (rowOf l) g)
  case atStart => exact ⟨[], by simp, HGS.out, HBEL0.out, runs_order _, Gone.nil _⟩
  case round =>
    obtain ⟨g, hgl, hgs, hbel, hruns, hgone⟩ := hrel
    obtain ⟨oa, oc, rfl⟩ := hgs.row.shape
    have hgfit : ∀ x ∈ g, U64 x := fun x hx => by
      have := hgone.sub x hx
      rw [rowOf_ids] at this
      obtain ⟨v, hv, rfl⟩ := List.mem_map.1 this
      exact (HE.out v hv).id
    have HGF := Lib.hid hgfit
    have HG := Lib.hid hgs
    have HW := Lib.hid hbel
    have HRUNS := Lib.hid hruns
    have HGONE := Lib.hid hgone
    have HGL := Lib.hid hgl
    have hgle : g.length ≤ 1001 := by omega
    clear hgs hbel hruns hgone hgfit hgl
    go_wp2
    go_loopw [4, 14] (fun v4 v wr => v4 = .slice oa g.length oc ∧ ∃ j : Nat, v = .int .i64 (j : Int) ∧ j ≤ l.length ∧ (∀ i (h : i < l'.length), i < j → ready g l'[i].node = false) ∧ GS w b (.slice oa g.length oc) g wr ∧ Below b w2 wr) (fun _ v _ => l.length - (intOf v).toNat)
    case atStart => exact ⟨rfl, 0, rfl, Nat.zero_le _, fun i _ hi => absurd hi (by omega), HG.out, HW.out⟩
    case round =>
      clear HG HW
      obtain ⟨rfl, j, rfl, hj, hnone, hgs, hbel⟩ := hrel
      have HG := Lib.hid hgs
      have HW := Lib.hid hbel
      have HNONE := Lib.hid hnone
      clear hgs hbel hnone
      by_cases hlt : j < l.length
      · have hlt2 : j < l'.length := by have := HLL.out; omega
        obtain ⟨⟨gb, q, ha, hc⟩, heach⟩ := HN3.out.below (HB.out ▸ HW.out)
        obtain ⟨hgb, hc1, hc2⟩ := hc j hlt2
        have ea := ha (by intro e; subst e; simp at hlt2)
        have hv2 := heach l'[j] (List.getElem_mem hlt2)
        have hvd := HD.out l'[j] (HPM.out.mem_iff.1 (List.getElem_mem hlt2))
        obtain ⟨v, hv⟩ : ∃ v, l'[j] = v := ⟨_, rfl⟩
        rw [hv] at hc1 hc2 hv2 hvd
        cases ea
        have hbA : Below wr.heap.size wr (wr.alloc (.cells #[.int .u64 v.id, .slice v.da v.deps.length v.dc] 72)) := (Below.refl _ _).alloc (Nat.le_refl _) _
        have HV := Lib.hid hv
        have hH := has_any (HG.out.set_.below hbA) hv2.id
        have hbx : ∀ W, Below (wr.alloc (.cells #[.int .u64 v.id, .slice v.da v.deps.length v.dc] 72)).heap.size (wr.alloc (.cells #[.int .u64 v.id, .slice v.da v.deps.length v.dc] 72)) W → W.cell? ⟨wr.heap.size, 0, none⟩ = some (.int .u64 v.id) ∧ W.cell? ⟨wr.heap.size, 1, none⟩ = some (.slice v.da v.deps.length v.dc) := fun W hW => by
          have h1 := (hW.block wr.heap.size (by simp)).trans (heap_alloc_new wr _)
          exact ⟨by rw [cell_of_row _ _ 0 _ _ _ h1]; rfl, by rw [cell_of_row _ _ 1 _ _ _ h1]; rfl⟩
        have hHA : ∀ W, Below (wr.alloc (.cells #[.int .u64 v.id, .slice v.da v.deps.length v.dc] 72)).heap.size (wr.alloc (.cells #[.int .u64 v.id, .slice v.da v.deps.length v.dc] 72)) W → Calls Tryz.prog 53 #[.map (some b), .slice v.da v.deps.length v.dc] W fun e w' => e = .returned (.bool (v.deps.all fun x => g.contains x)) ∧ Below W.heap.size W w' := fun W hW =>
          hasAll_any ((HG.out.set_.below hbA).below hW) ((hv2.deps.below hbA).below hW) (by omega)
        have hrd : ready g v.node = (!g.contains v.id && v.deps.all fun x => g.contains x) := rfl
        have hfit := hv2.id
        obtain ⟨s1, hs1⟩ : ∃ s, s = g.contains v.id := ⟨_, rfl⟩
        obtain ⟨s2, hs2⟩ : ∃ s, s = v.deps.all fun x => g.contains x := ⟨_, rfl⟩
        rw [← hs1, ← hs2] at hrd
        rw [← hs1] at hH
        rw [← hs2] at hHA
        have hd : decide ((j : Int) < (l.length : Int)) = true := by simp; omega
        have HH := Lib.hid hH
        have HHA := Lib.hid hHA
        have HRD := Lib.hid hrd
        have HBX := Lib.hid hbx
        have HGA := Lib.hid (HG.out.below hbA)
        have HWA := Lib.hid (HW.out.trans (hbA.mono (by have := HG.out.set_.lt; omega)))
        clear hv hH hHA hrd hs1 hs2 hbx hbA hv2 heach hc
        cases s1 with
        | true =>
          go_wp2_with fail
          refine HH.out.mono ?_
          rintro e w3 ⟨rfl, hb3⟩
          have HG3 := Lib.hid (HGA.out.below hb3)
          have HW3 := Lib.hid (HWA.out.trans (hb3.mono (by have := HGA.out.set_.lt; omega)))
          clear hb3
          go_wp2
          go_roundw
          case rel => exact ⟨rfl, j + 1, by go_num, by omega, fun i hi hij => by
            rcases Nat.lt_or_ge i j with h1 | h1
            · exact HNONE.out i hi h1
            · obtain rfl : i = j := by omega
              rw [HV.out, HRD.out]; rfl, HG3.out, HW3.out⟩
          case measure => simp [intOf]; omega
        | false =>
          cases s2 with
          | false =>
            go_wp2_with fail
            refine HH.out.mono ?_
            rintro e w3 ⟨rfl, hb3⟩
            obtain ⟨x0, x1⟩ := HBX.out w3 hb3
            have HHA3 := Lib.hid (HHA.out w3 hb3)
            have HG3 := Lib.hid (HGA.out.below hb3)
            have HW3 := Lib.hid (HWA.out.trans (hb3.mono (by have := HGA.out.set_.lt; omega)))
            clear hb3
            go_wp2_with fail
            refine HHA3.out.mono ?_
            rintro e w4 ⟨rfl, hb4⟩
            have HG4 := Lib.hid (HG3.out.below hb4)
            have HW4 := Lib.hid (HW3.out.trans (hb4.mono (by have := HG3.out.set_.lt; omega)))
            clear hb4
            go_wp2
            go_roundw
            case rel => exact ⟨rfl, j + 1, by go_num, by omega, fun i hi hij => by
              rcases Nat.lt_or_ge i j with h1 | h1
              · exact HNONE.out i hi h1
              · obtain rfl : i = j := by omega
                rw [HV.out, HRD.out]; rfl, HG4.out, HW4.out⟩
            case measure => simp [intOf]; omega
          | true =>
            have hnx := first_next HPM.out HPW.out hlt2 (by rw [HV.out, HRD.out]; rfl) HNONE.out
            rw [HV.out] at hnx
            have hxin : v.id ∉ g := fun h => by
              have := (ready_iff.1 (show ready g v.node = true from HRD.out)).1
              exact this h
            have hroom := HGONE.out.room (next_some.1 hnx).mem
            rw [rowOf_len] at hroom
            have HNX := Lib.hid (And.intro (HRUNS.out.step hnx) (HGONE.out.next hnx))
            have HXIN := Lib.hid hxin
            clear hnx hxin
            go_wp2_with fail
            refine HH.out.mono ?_
            rintro e w3 ⟨rfl, hb3⟩
            obtain ⟨x0, x1⟩ := HBX.out w3 hb3
            have HHA3 := Lib.hid (HHA.out w3 hb3)
            have HG3 := Lib.hid (HGA.out.below hb3)
            have HW3 := Lib.hid (HWA.out.trans (hb3.mono (by have := HGA.out.set_.lt; omega)))
            have HB3 := Lib.hid hb3
            clear hb3
            go_wp2_with fail
            refine HHA3.out.mono ?_
            rintro e w4 ⟨rfl, hb4⟩
            obtain ⟨y0, y1⟩ := HBX.out w4 (HB3.out.trans (hb4.mono HB3.out.size))
            have hgs4 := HG3.out.below hb4
            have HG4 := Lib.hid hgs4
            have HW4 := Lib.hid (HW3.out.trans (hb4.mono (by have := HG3.out.set_.lt; omega)))
            have hA4 := add_any hgs4.set_ hfit (by omega)
            have HA4 := Lib.hid hA4
            have HB4 := Lib.hid (HB3.out.trans (hb4.mono HB3.out.size))
            clear hb4 hgs4 hA4 x0 x1
            go_wp2_with fail
            refine HA4.out.mono ?_
            rintro e w5 ⟨rfl, hset5, hg5⟩
            have hbw : b < wr.heap.size := HG.out.set_.lt
            have hkey : ∀ k, k < w4.heap.size → k ≠ b → w5.heap[k]? = w4.heap[k]? := fun k hk hkb => hg5.block k hk (by simpa using hkb)
            have hwr4 : wr.heap.size < w4.heap.size := by
              have := HB4.out.size
              simp at this
              omega
            have z0 : w5.cell? ⟨wr.heap.size, 0, none⟩ = some (.int .u64 v.id) := (World.cell?_of_block (w := w4) (hkey wr.heap.size hwr4 (by omega))).trans y0
            have hne4 := set_row_ne HG4.out.set_ HG4.out.row
            have hrow5 := HG4.out.row.only hg5 hne4
            have hb5 : Below w.heap.size w w5 := HG4.out.bel.grown hg5 HG4.out.bel.size (fun k e => by cases e; exact HG4.out.hb)
            have hw5 : Below b w2 w5 := HW4.out.grown hg5 (by have := HG4.out.set_.lt; omega) (fun k e => by cases e; exact Nat.le_refl _)
            rw [put_new HXIN.out] at hset5
            have hown := hrow5.own
            have hszw := hb5.size
            have hszb : b < w5.heap.size := hset5.lt
            have HROW5 := Lib.hid hrow5
            have HSET5 := Lib.hid hset5
            have HG0 := Lib.hid HG.out.hb
            have HB5 := Lib.hid hb5
            have HW5 := Lib.hid hw5
            clear hset5 hg5 hkey y0 y1 hne4 hrow5 hb5 hw5 HG HW HGA HWA HG3 HW3 HG4 HW4 HA4 HHA3 HHA HH HBX HB3 HB4
            go_wp2_with (at_builtin; refine wpList_append_own _ rfl _ _ 27 rfl b 26 i0 (.int .u64 0) 1 8 Tryz.underlying27 hi0 hz0 hz1 hz2 rfl (by decide) _ _ _ rfl (hown.alloc _) ⟨w5.heap.size, 0, none⟩ 1 1 [.int .u64 v.id] rfl rfl (cell_one_new _ _ _) (by simp [Value.oneCell']) (by unfold maxLen; omega) (by omega) (by simp; omega) ?_)
            intro v' w6 hown' hgrow _
            have hbl : Below w5.heap.size w5 (w5.alloc (.cells #[.int .u64 v.id] 26)) := (Below.refl _ _).alloc (Nat.le_refl _) _
            have hr6 := RowU.snoc hown'
            have hne5 := set_row_ne HSET5.out HROW5.out
            have hw6 : Below b w2 w6 := (HROW5.out.below hbl).grown (HW5.out.trans (hbl.mono (by omega))) (by simp; omega) hgrow
            have hb6 : Below w.heap.size w w6 := (HB5.out.trans (hbl.mono HB5.out.size)).grown hgrow (by simp; omega) (fun k e => by have := ((HROW5.out.below hbl).lt k e).1; have := HG0.out; omega)
            have hset6 : SetAt w6 b (g ++ [v.id]) := (HSET5.out.below hbl).same (hgrow.block b (by have := HSET5.out.lt; simp; omega) hne5)
            have HX := Lib.hid (And.intro (GS.mk hr6 hset6 HG0.out hb6) hw6)
            clear hown' hgrow hbl hr6 hne5 hw6 hb6 hset6 hown
            go_wp2
            go_roundg (l.length + 1 - (g.length + 1))
            case measure => have := HGL.out; omega
            case rel => exact ⟨g ++ [v.id], by simp; omega, HX.out.1, HX.out.2, HNX.out.1, HNX.out.2⟩
      · obtain rfl : j = l.length := by omega
        have hd : decide ((l.length : Int) < (l.length : Int)) = false := by simp
        have hn := first_none (g := g) HPM.out fun i hi => HNONE.out i hi (by have := HLL.out; omega)
        have hg := HRUNS.out.done hn
        have HGG := Lib.hid hg
        clear hn hg
        go_wp2_with fail
        rw [Exit.noGoto_ret]
        go_ret
        exact ⟨_, rfl, by rw [← HGG.out]; exact HG.out.row.less HG.out.hb, HG.out.bel⟩


set_option maxRecDepth 100000 in
set_option maxHeartbeats 2000000 in
theorem may_any {w : World} {a : Option Addr} {l : List NodeV} {c : Nat} (hN : NodesF w a l) (hl : l.length ≤ 1000) (hdl : ∀ v ∈ l, v.deps.length ≤ 100000) :
    Calls Tryz.prog 16 #[.slice a l.length c] w fun e w' => e = .returned (.int .i64 (mayOf (rowOf l))) ∧ Below w.heap.size w w' := by
  have h1 := isLong_any (c := c) hN (by omega)
  have h2 : ∀ W, Below w.heap.size w W → Calls Tryz.prog 33 #[.slice a l.length c] W fun e w' => e = .returned (.bool (hasTwice (rowOf l))) ∧ Below W.heap.size W w' := fun W hW => hasTwice_any (hN.below hW) hl hdl
  have h3 : ∀ W, Below w.heap.size w W → Calls Tryz.prog 34 #[.slice a l.length c] W fun e w' => e = .returned (.bool (hasStranger (rowOf l))) ∧ Below W.heap.size W w' := fun W hW => hasStranger_any (hN.below hW) hl hdl
  have h4 : ∀ W, Below w.heap.size w W → Calls Tryz.prog 35 #[.slice a l.length c] W fun e w' => ∃ v, e = .returned v ∧ RowU W.heap.size v (orderOf (rowOf l)) w' ∧ Below W.heap.size W w' := fun W hW => ordered_any (hN.below hW) hl hdl
  have hm : mayOf (rowOf l) = if isLong (rowOf l) then 3 else if hasTwice (rowOf l) then 130 else if hasStranger (rowOf l) then 5 else if (orderOf (rowOf l)).length < l.length then 131 else 0 := by
    unfold mayOf
    rw [rowOf_len]
  have hog := (order_gone (rowOf l)).len
  rw [rowOf_len] at hog
  obtain ⟨r, hr⟩ : ∃ r, r = mayOf (rowOf l) := ⟨_, rfl⟩
  obtain ⟨s1, hs1⟩ : ∃ s, s = isLong (rowOf l) := ⟨_, rfl⟩
  obtain ⟨s2, hs2⟩ : ∃ s, s = hasTwice (rowOf l) := ⟨_, rfl⟩
  obtain ⟨s3, hs3⟩ : ∃ s, s = hasStranger (rowOf l) := ⟨_, rfl⟩
  obtain ⟨o, ho⟩ : ∃ o, o = orderOf (rowOf l) := ⟨_, rfl⟩
  rw [← hr, ← hs1, ← hs2, ← hs3, ← ho] at hm
  rw [← hs1] at h1
  rw [← hs2] at h2
  rw [← hs3] at h3
  rw [← ho] at h4 hog
  rw [← hr]
  have H1 := Lib.hid h1
  have H2 := Lib.hid h2
  have H3 := Lib.hid h3
  have H4 := Lib.hid h4
  have HM := Lib.hid hm
  clear hN h1 h2 h3 h4 hm hr hs1 hs2 hs3 ho hdl
  cases s1 with
  | true =>
    go_enter Tryz.func16, Tryz.ntmps16
    go_wp2_with fail
    refine H1.out.mono ?_
    rintro e w1 ⟨rfl, hb1⟩
    have HB1 := Lib.hid hb1
    clear hb1
    go_wp2
    go_ret
    exact ⟨by rw [HM.out]; rfl, HB1.out⟩
  | false =>
    cases s2 with
    | true =>
      go_enter Tryz.func16, Tryz.ntmps16
      go_wp2_with fail
      refine H1.out.mono ?_
      rintro e w1 ⟨rfl, hb1⟩
      have HC2 := Lib.hid (H2.out w1 hb1)
      have HB1 := Lib.hid hb1
      clear hb1
      go_wp2_with fail
      refine HC2.out.mono ?_
      rintro e w2 ⟨rfl, hb2⟩
      have HB2 := Lib.hid (HB1.out.trans (hb2.mono HB1.out.size))
      clear hb2
      go_wp2
      go_ret
      exact ⟨by rw [HM.out]; rfl, HB2.out⟩
    | false =>
      cases s3 with
      | true =>
        go_enter Tryz.func16, Tryz.ntmps16
        go_wp2_with fail
        refine H1.out.mono ?_
        rintro e w1 ⟨rfl, hb1⟩
        have HC2 := Lib.hid (H2.out w1 hb1)
        have HB1 := Lib.hid hb1
        clear hb1
        go_wp2_with fail
        refine HC2.out.mono ?_
        rintro e w2 ⟨rfl, hb2⟩
        have hbb2 := HB1.out.trans (hb2.mono HB1.out.size)
        have HC3 := Lib.hid (H3.out w2 hbb2)
        have HB2 := Lib.hid hbb2
        clear hb2 hbb2
        go_wp2_with fail
        refine HC3.out.mono ?_
        rintro e w3 ⟨rfl, hb3⟩
        have HB3 := Lib.hid (HB2.out.trans (hb3.mono HB2.out.size))
        clear hb3
        go_wp2
        go_ret
        exact ⟨by rw [HM.out]; rfl, HB3.out⟩
      | false =>
        go_enter Tryz.func16, Tryz.ntmps16
        go_wp2_with fail
        refine H1.out.mono ?_
        rintro e w1 ⟨rfl, hb1⟩
        have HC2 := Lib.hid (H2.out w1 hb1)
        have HB1 := Lib.hid hb1
        clear hb1
        go_wp2_with fail
        refine HC2.out.mono ?_
        rintro e w2 ⟨rfl, hb2⟩
        have hbb2 := HB1.out.trans (hb2.mono HB1.out.size)
        have HC3 := Lib.hid (H3.out w2 hbb2)
        have HB2 := Lib.hid hbb2
        clear hb2 hbb2
        go_wp2_with fail
        refine HC3.out.mono ?_
        rintro e w3 ⟨rfl, hb3⟩
        have hbb3 := HB2.out.trans (hb3.mono HB2.out.size)
        have HC4 := Lib.hid (H4.out w3 hbb3)
        have HB3 := Lib.hid hbb3
        clear hb3 hbb3
        go_wp2_with fail
        refine HC4.out.mono ?_
        rintro e w4 ⟨v, rfl, hrow, hb4⟩
        obtain ⟨oa, oc, rfl⟩ := hrow.shape
        have HB4 := Lib.hid (HB3.out.trans (hb4.mono HB3.out.size))
        clear hrow hb4
        by_cases hlt : o.length < l.length
        · have hd : decide ((o.length : Int) < (l.length : Int)) = true := by simp; omega
          have HR := Lib.hid (show r = 131 by rw [HM.out]; simp [hlt])
          go_wp2
          go_ret
          exact ⟨by rw [HR.out]; rfl, HB4.out⟩
        · have hd : decide ((o.length : Int) < (l.length : Int)) = false := by simp; omega
          have HR := Lib.hid (show r = 0 by rw [HM.out]; simp [hlt])
          go_wp2
          go_ret
          exact ⟨by rw [HR.out]; rfl, HB4.out⟩

end Go.Proofs.YtpbnjibomdilhaaGreatDoor.Gph
