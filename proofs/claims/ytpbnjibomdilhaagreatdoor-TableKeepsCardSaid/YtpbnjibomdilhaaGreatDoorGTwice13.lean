/- slices.Compact at []uint64, by its contract; hasTwice and hasStranger. -/
import Derived.Test.YtpbnjibomdilhaaGreatDoorGValU13
import Derived.Test.YtpbnjibomdilhaaGreatDoorMat
import Derived.Test.YtpbnjibomdilhaaGreatDoorShelf
import Derived.Deep.RegionWith
namespace Go.Proofs.YtpbnjibomdilhaaGreatDoor.Gph
open Go.RowKit Gr Go.Sort Go.Shelf Go.Lib

/-- what of a row stays when each run of equal numbers is told once -/
def cpt (xs : List Int) : List Int := compactUpTo xs.toArray xs.length
theorem cpt_small {xs : List Int} (h : xs.length < 2) : cpt xs = xs := by
  match xs, h with
  | [], _ => rfl
  | [x], _ => rfl
theorem compact_inc {xs : List Int} (hs : xs.Pairwise (· ≤ ·)) : ∀ m, m ≤ xs.length → (compactUpTo xs.toArray m).Pairwise (· < ·) ∧ ∀ x, x ∈ compactUpTo xs.toArray m ↔ ∃ j, j < m ∧ xs.toArray[j]! = x := by
  have hle : ∀ i j, i < j → j < xs.length → xs.toArray[i]! ≤ xs.toArray[j]! := fun i j hij hj => by
    rw [getElem!_pos xs.toArray i (by simp; omega), getElem!_pos xs.toArray j (by simpa using hj)]
    exact List.pairwise_iff_getElem.1 hs i j (by omega) hj hij
  intro m
  induction m with
  | zero => intro _; simp [compactUpTo]
  | succ m ih =>
    intro hm
    obtain ⟨h1, h2⟩ := ih (by omega)
    rw [compactUpTo_succ]
    cases hk : keeps xs.toArray m with
    | true =>
      simp only [if_true]
      refine ⟨List.pairwise_append.2 ⟨h1, by simp, fun a ha b hb => ?_⟩, fun x => ?_⟩
      · simp only [List.mem_singleton] at hb
        subst hb
        obtain ⟨j, hj, rfl⟩ := (h2 a).1 ha
        have hne : xs.toArray[m]! ≠ xs.toArray[m - 1]! := by
          unfold keeps at hk
          simp only [decide_eq_true_eq] at hk
          rcases hk with h | h
          · omega
          · exact h
        have a1 := hle (m - 1) m (by omega) (by omega)
        have a2 : xs.toArray[j]! ≤ xs.toArray[m - 1]! := by
          rcases Nat.lt_or_ge j (m - 1) with h | h
          · exact hle j (m - 1) h (by omega)
          · rw [show j = m - 1 by omega]; exact Int.le_refl _
        omega
      · rw [List.mem_append, h2, List.mem_singleton]
        constructor
        · rintro (⟨j, hj, e⟩ | e)
          · exact ⟨j, by omega, e⟩
          · exact ⟨m, by omega, e.symm⟩
        · rintro ⟨j, hj, e⟩
          rcases Nat.lt_or_ge j m with h | h
          · exact .inl ⟨j, h, e⟩
          · obtain rfl : j = m := by omega
            exact .inr e.symm
    | false =>
      have hk2 : ¬ (m = 0 ∨ xs.toArray[m]! ≠ xs.toArray[m - 1]!) := by
        unfold keeps at hk
        simpa only [decide_eq_false_iff_not] using hk
      have he : xs.toArray[m]! = xs.toArray[m - 1]! := Classical.byContradiction fun h => hk2 (.inr h)
      have hm0 : m ≠ 0 := fun h => hk2 (.inl h)
      refine ⟨by simpa using h1, fun x => ?_⟩
      simp only [Bool.false_eq_true, if_false, List.append_nil]
      rw [h2]
      constructor
      · rintro ⟨j, hj, e⟩
        exact ⟨j, by omega, e⟩
      · rintro ⟨j, hj, e⟩
        rcases Nat.lt_or_ge j m with h | h
        · exact ⟨j, h, e⟩
        · obtain rfl : j = m := by omega
          exact ⟨j - 1, by omega, by rw [← he]; exact e⟩
theorem cpt_rise {xs : List Int} (hs : xs.Pairwise (· ≤ ·)) : (cpt xs).Pairwise (· < ·) := (compact_inc hs xs.length (Nat.le_refl _)).1
theorem mem_cpt {xs : List Int} (hs : xs.Pairwise (· ≤ ·)) {x : Int} : x ∈ cpt xs ↔ x ∈ xs := by
  rw [cpt, (compact_inc hs xs.length (Nat.le_refl _)).2]
  constructor
  · rintro ⟨j, hj, rfl⟩
    rw [getElem!_pos xs.toArray j (by simpa using hj)]
    simp
  · intro h
    obtain ⟨j, hj, rfl⟩ := List.getElem_of_mem h
    exact ⟨j, hj, by rw [getElem!_pos xs.toArray j (by simpa using hj)]; simp⟩
theorem cpt_len (xs : List Int) : (cpt xs).length ≤ xs.length := by
  unfold cpt compactUpTo
  rw [List.length_map]
  exact Nat.le_trans (List.length_filter_le _ _) (by simp)
theorem rise_nodup {l : List Int} (h : l.Pairwise (· < ·)) : l.Nodup := h.imp fun hab e => by omega
/-- fewer, each once, than there were: one was told twice -/
theorem nodup_lt {S m : List Int} (hS : S.Nodup) (hm : ∀ x, x ∈ S ↔ x ∈ m) : S.length < m.length ↔ ¬ m.Nodup := by
  constructor
  · intro h hn
    have := nodup_le hn (fun x hx => (hm x).2 hx)
    omega
  · intro h
    obtain ⟨x, hx, hx2⟩ := twin h
    have h3 := nodup_le (l := m.erase x) hS (fun y hy => by
      by_cases e : y = x
      · rw [e]; exact hx2
      · exact (List.mem_erase_of_ne e).2 ((hm y).1 hy))
    rw [List.length_erase_of_mem hx] at h3
    have := List.length_pos_of_mem hx
    omega
theorem cpt_twice (zs : List Int) : decide ((cpt (sorted zs)).length < zs.length) = Gr.twice zs := by
  unfold Gr.twice
  rw [Bool.eq_iff_iff, decide_eq_true_iff, Bool.not_eq_true', decide_eq_false_iff_not]
  exact nodup_lt (rise_nodup (cpt_rise (sorted_le zs))) fun x => (mem_cpt (sorted_le zs)).trans (sorted_perm zs).mem_iff

theorem compact_none (a : Option Addr) (c : Nat) (w : World) : Calls Tryz.prog 46 #[.slice a 0 c] w fun e w' => e = .returned (.slice a 0 c) ∧ w' = w := by
  go_enter Tryz.func46, Tryz.ntmps46
  go_wp2
  go_ret
  exact ⟨rfl, by first | rfl | trivial⟩

theorem compactU_any {w : World} {B : Nat} {a : Option Addr} {c : Nat} {xs : List Int} (t : RowU B (.slice a xs.length c) xs w) (hsz : xs.length ≤ 1000000) :
    Calls Tryz.prog 46 #[.slice a xs.length c] w fun e w' => e = .returned (.slice a (cpt xs).length c) ∧ RowU B (.slice a (cpt xs).length c) (cpt xs) w' ∧ w.grownBy w' (Value.slice a xs.length c).ownBlock := by
  have ht := t
  obtain ⟨h⟩ := t
  rcases h.2 with ⟨e, h0⟩ | ⟨g, cap, cur, e, hB, hg, r1, r2, r3, r4⟩
  · obtain rfl := List.eq_nil_of_length_eq_zero h0
    refine (compact_none a c w).mono ?_
    rintro e w' ⟨rfl, rfl⟩
    exact ⟨rfl, ht, World.grownBy.refl _ _⟩
  · cases e
    have hH := holds_own hg (by simpa using r4)
    have hcon := Tryz.slices_Compact encU (fun _ => rfl) (EqlAt.intD _ _ _) (NeqAt.intD _ _ _) 0 (fun w => by kernel_rfl) g 0 c xs.toArray w hH (by simp; omega) (by simpa using r1)
    rw [show xs.toArray.size = xs.length by simp] at hcon
    refine hcon.mono ?_
    rintro e w' ⟨rfl, q, rfl⟩
    have hl := cpt_len xs
    have hcu : compactUpTo xs.toArray xs.length = cpt xs := rfl
    rw [hcu]
    obtain ⟨ys, hys⟩ : ∃ ys, ys = cpt xs := ⟨_, rfl⟩
    rw [← hys] at hl ⊢
    have hlen : (ys ++ List.replicate (xs.length - ys.length) 0).length = xs.length := by simp; omega
    have hpr := heap_put_row (n := q) (os := #[]) (ys ++ List.replicate (xs.length - ys.length) 0).toArray hg
    have hgr := grown_put_row (w := w) (g := g) (n := q) (os := #[]) (ys ++ List.replicate (xs.length - ys.length) 0).toArray
    rw [grow_empty] at hpr hgr
    refine ⟨rfl, ⟨by simp, .inr ⟨g, c, _, rfl, hB, hpr, by omega, r2, by simp [putCells, r3], ?_⟩⟩, hgr⟩
    have htp := take_put cur (ys ++ List.replicate (xs.length - ys.length) 0) (by rw [hlen]; omega)
    have := congrArg (List.take ys.length) htp
    rw [List.take_take, Nat.min_eq_left (by rw [hlen]; omega)] at this
    rw [Nat.mul_one, this, List.map_append, List.take_left' (by simp)]

set_option maxRecDepth 100000 in
set_option maxHeartbeats 2000000 in
theorem hasTwice1_any {w : World} (v : NodeV) (hv : NodeF w v) (hd : v.deps.length ≤ 100000) :
    Calls Tryz.prog 50 #[.agg #[.int .u64 v.id, .slice v.da v.deps.length v.dc]] w fun e w' => e = .returned (.bool (Gr.twice v.deps)) ∧ Below w.heap.size w w' := by
  obtain ⟨s, hs⟩ : ∃ s, s = Gr.twice v.deps := ⟨_, rfl⟩
  rw [← hs]
  have hcl := cpt_len (sorted v.deps)
  rw [sorted_len] at hcl
  have hct : decide (((cpt (sorted v.deps)).length : Int) < (v.deps.length : Int)) = s := by
    rw [hs, ← cpt_twice]
    simp
  have hb1 : Below w.heap.size w (w.alloc (.cells #[.int .u64 v.id, .slice v.da v.deps.length v.dc] 72)) := (Below.refl _ _).alloc (Nat.le_refl _) _
  have hb2 : Below w.heap.size w ((w.alloc (.cells #[.int .u64 v.id, .slice v.da v.deps.length v.dc] 72)).alloc (.cells #[.slice v.da v.deps.length v.dc] 27)) := hb1.alloc hb1.size _
  have hcell : ((w.alloc (.cells #[.int .u64 v.id, .slice v.da v.deps.length v.dc] 72)).alloc (.cells #[.slice v.da v.deps.length v.dc] 27)).cell? ⟨w.heap.size + 1, 0, none⟩ = some (.slice v.da v.deps.length v.dc) := by
    have := heap_alloc_new (w.alloc (.cells #[.int .u64 v.id, .slice v.da v.deps.length v.dc] 72)) (.cells #[.slice v.da v.deps.length v.dc] 27)
    simp only [World.size_alloc] at this
    rw [cell_of_row _ _ 0 _ _ _ this]
    rfl
  have hbx : ((w.alloc (.cells #[.int .u64 v.id, .slice v.da v.deps.length v.dc] 72)).alloc (.cells #[.slice v.da v.deps.length v.dc] 27)).cell? ⟨w.heap.size, 1, none⟩ = some (.slice v.da v.deps.length v.dc) := by
    have h1 : ((w.alloc (.cells #[.int .u64 v.id, .slice v.da v.deps.length v.dc] 72)).alloc (.cells #[.slice v.da v.deps.length v.dc] 27)).heap[w.heap.size]? = some (.cells #[.int .u64 v.id, .slice v.da v.deps.length v.dc] 72) :=
      (Below.heap_alloc _ _ _ (by simp)).trans (heap_alloc_new w _)
    rw [cell_of_row _ _ 1 _ _ _ h1]
    rfl
  have HBX := Lib.hid hbx
  have HSO := Lib.hid (sortedU_any (w.heap.size + 1) v.da v.dc v.deps _ hcell (hv.deps.below hb2) (by omega))
  have HB2 := Lib.hid hb2
  have HCT := Lib.hid hct
  have HV := Lib.hid hv
  clear hs hct hcell hb1 hb2 hv hbx
  go_enter Tryz.func50, Tryz.ntmps50
  go_wp2_with fail
  refine (valuesU_any _ _ _ _).mono ?_
  rintro e w1 ⟨rfl, rfl⟩
  go_wp2_with fail
  refine HSO.out.mono ?_
  rintro e w2 ⟨v2, rfl, hrow, hbw⟩
  obtain ⟨va, vc, rfl⟩ := hrow.shape
  have hcx := stays hbw HBX.out
  have hbw2 := HB2.out.trans (hbw.mono HB2.out.size)
  have hC : ∀ W, Drew w2 W → Calls Tryz.prog 46 #[.slice va (sorted v.deps).length vc] W fun e w' => e = .returned (.slice va (cpt (sorted v.deps)).length vc) ∧ w'.cell? ⟨w.heap.size, 1, none⟩ = some (.slice v.da v.deps.length v.dc) ∧ Below w.heap.size w w' := fun W hW =>
    (compactU_any (hrow.below hW.bel) (by rw [sorted_len]; omega)).mono fun e w' h => by
      obtain ⟨h1, h2, h3⟩ := h
      have hsz2 : w.heap.size + 2 ≤ W.heap.size := by
        have := hbw.size
        have := hW.bel.size
        simp at *
        omega
      have hkeep : Below (w.heap.size + 2) W w' := (Below.refl _ _).grown h3 hsz2 fun k e => by
        have := ((hrow.below hW.bel).lt k e).1
        simp at this
        omega
      refine ⟨h1, ?_, (hbw2.trans (hW.bel.mono hbw2.size)).trans (hkeep.mono (by omega))⟩
      exact (hkeep.cell (p := ⟨w.heap.size, 1, none⟩) (by simp)).trans (stays hW.bel hcx)
  obtain ⟨m, hm⟩ : ∃ m, m = (cpt (sorted v.deps)).length := ⟨_, rfl⟩
  obtain ⟨m2, hm2⟩ : ∃ m2, m2 = (sorted v.deps).length := ⟨_, rfl⟩
  have hct := HCT.out
  rw [← hm] at hC hcl hct
  rw [← hm2] at hC ⊢
  have HC := Lib.hid hC
  have HBW := Lib.hid hbw2
  clear hC hrow hbw hbw2 hm hm2 HCT
  go_wp2_with fail
  go_region_with (first | (go_at_call 46; refine (HC.out _ (by first | exact Drew.refl _ | exact (Drew.refl _).drew | exact (Drew.refl _).drew.drew | exact (Drew.refl _).drew.drew.drew | exact (Drew.refl _).drew.drew.drew.drew | exact (Drew.refl _).drew.drew.drew.drew.drew | exact (Drew.refl _).drew.drew.drew.drew.drew.drew)).mono ?_; (rintro e w9 ⟨rfl, hc9, hb9⟩)))
  all_goals
    go_wp2
    go_ret
    refine ⟨?_, by first | exact hb9 | exact hb9.drew | exact hb9.drew.drew | exact hb9.drew.drew.drew | exact hb9.drew.drew.drew.drew | exact hb9.drew.drew.drew.drew.drew | exact hb9.drew.drew.drew.drew.drew.drew⟩
    simp [Act.put]
    rw [← hct]
    simp

theorem hasTwice_eq {l : List NodeV} : hasTwice (rowOf l) = (decide ((idSet l).length < l.length) || l.any fun v => Gr.twice v.deps) := by
  unfold hasTwice
  rw [rowOf_ids, rowOf, List.any_map]
  congr 1
  rw [Bool.eq_iff_iff, decide_eq_true_iff, idSet_lt]
  simp [Gr.twice]

set_option maxRecDepth 100000 in
set_option maxHeartbeats 2000000 in
theorem hasTwice_any {w : World} {a : Option Addr} {l : List NodeV} {c : Nat} (hN : NodesF w a l) (hl : l.length ≤ 1000) (hd : ∀ v ∈ l, v.deps.length ≤ 100000) :
    Calls Tryz.prog 33 #[.slice a l.length c] w fun e w' => e = .returned (.bool (hasTwice (rowOf l))) ∧ Below w.heap.size w w' := by
  have hI := ids_any (c := c) hN hl
  have hCF : ∀ W, Below w.heap.size w W → Calls Tryz.prog 47 #[.slice a l.length c, .func (.func 50) #[] #[]] W fun e w' => e = .returned (.bool (l.any fun v => Gr.twice v.deps)) ∧ Below W.heap.size W w' := fun W hW =>
    containsFunc_any (c := c) (hN.below hW) (by omega) 50 #[] (enters_of Tryz.func50 (by kernel_rfl) rfl) (fun v => Gr.twice v.deps) (fun W2 v hv hb => hasTwice1_any v (((hN.each v hv).below hW).below hb) (hd v hv))
  have he := hasTwice_eq (l := l)
  obtain ⟨s, hs⟩ : ∃ s, s = hasTwice (rowOf l) := ⟨_, rfl⟩
  obtain ⟨t, ht⟩ : ∃ t, t = l.any fun v => Gr.twice v.deps := ⟨_, rfl⟩
  obtain ⟨n, hn⟩ : ∃ n, n = (idSet l).length := ⟨_, rfl⟩
  rw [← hs, ← ht, ← hn] at he
  rw [← ht] at hCF
  rw [← hs]
  have HI := Lib.hid hI
  have HCF := Lib.hid hCF
  have HN := Lib.hid hn
  clear hN hI hCF hd hs ht hn
  by_cases hlt : n < l.length
  · have hg : decide ((n : Int) < (l.length : Int)) = true := by simp; omega
    have hst : s = true := by rw [he, decide_eq_true hlt]; rfl
    subst hst
    clear he HCF
    go_enter Tryz.func33, Tryz.ntmps33
    go_wp2_with fail
    refine HI.out.mono ?_
    rintro e w1 ⟨b, rfl, hb0, hset, hb1⟩
    have HB1 := Lib.hid hb1
    obtain ⟨D, hD, htd, hsz, hh⟩ := hset.map
    rw [← HN.out] at hsz
    have hlen := hD.len (t := 83) (e := 108) Tryz.underlying83 3
    rw [hsz] at hlen
    clear hset hb1 hD htd hh hsz HI HN
    go_wp2
    go_ret
    exact ⟨rfl, HB1.out⟩
  · have hg : decide ((n : Int) < (l.length : Int)) = false := by simp; omega
    have hst : s = t := by rw [he, decide_eq_false hlt]; rfl
    subst hst
    clear he
    go_enter Tryz.func33, Tryz.ntmps33
    go_wp2_with fail
    refine HI.out.mono ?_
    rintro e w1 ⟨b, rfl, hb0, hset, hb1⟩
    have HB1 := Lib.hid hb1
    have HCF1 := Lib.hid (HCF.out w1 hb1)
    obtain ⟨D, hD, htd, hsz, hh⟩ := hset.map
    rw [← HN.out] at hsz
    have hlen := hD.len (t := 83) (e := 108) Tryz.underlying83 3
    rw [hsz] at hlen
    clear hset hb1 hD htd hh hsz HI HN HCF
    go_wp2_with fail
    refine HCF1.out.mono ?_
    rintro e w2 ⟨rfl, hb2⟩
    have HB2 := Lib.hid (HB1.out.trans (hb2.mono HB1.out.size))
    clear hb2
    go_wp2
    go_ret
    exact ⟨rfl, HB2.out⟩

set_option maxRecDepth 100000 in
set_option maxHeartbeats 1000000 in
theorem hasStranger1_any {w : World} {p b : Nat} {S : List Int} (v : NodeV) (hv : NodeF w v) (hd : v.deps.length ≤ 100000) (hS : SetAt w b S) (hp : w.cell? ⟨p, 0, none⟩ = some (.map (some b))) :
    Calls Tryz.prog 52 #[.agg #[.int .u64 v.id, .slice v.da v.deps.length v.dc], .pointer (some ⟨p, 0, none⟩)] w fun e w' => e = .returned (.bool (!v.deps.all fun d => S.contains d)) ∧ Below w.heap.size w w' := by
  have hb1 : Below w.heap.size w (w.alloc (.cells #[.int .u64 v.id, .slice v.da v.deps.length v.dc] 72)) := (Below.refl _ _).alloc (Nat.le_refl _) _
  have hH := hasAll_any (c := v.dc) (hS.below hb1) (hv.deps.below hb1) (by omega)
  have hp1 := stays hb1 hp
  obtain ⟨s, hs⟩ : ∃ s, s = v.deps.all fun d => S.contains d := ⟨_, rfl⟩
  rw [← hs] at hH ⊢
  have HH := Lib.hid hH
  have HB := Lib.hid hb1
  clear hv hS hb1 hH hs
  go_enter Tryz.func52, Tryz.ntmps52
  go_wp2_with fail
  refine HH.out.mono ?_
  rintro e w1 ⟨rfl, hb2⟩
  have HB2 := Lib.hid (HB.out.trans (hb2.mono HB.out.size))
  clear hb2
  go_wp2
  go_ret
  exact ⟨rfl, HB2.out⟩

theorem hasStranger_eq {l : List NodeV} : hasStranger (rowOf l) = l.any fun v => !v.deps.all fun d => (idSet l).contains d := by
  unfold hasStranger
  rw [rowOf_ids, rowOf, List.any_map]
  have hm : ∀ d, (l.map (·.id)).contains d = (idSet l).contains d := fun d => by
    rw [Bool.eq_iff_iff, List.contains_iff_mem, List.contains_iff_mem, mem_idSet]
  congr 1
  funext v
  simp only [Function.comp, NodeV.node]
  rw [List.not_all_eq_any_not]
  congr 1
  funext d
  rw [hm]

set_option maxRecDepth 100000 in
set_option maxHeartbeats 2000000 in
theorem hasStranger_any {w : World} {a : Option Addr} {l : List NodeV} {c : Nat} (hN : NodesF w a l) (hl : l.length ≤ 1000) (hd : ∀ v ∈ l, v.deps.length ≤ 100000) :
    Calls Tryz.prog 34 #[.slice a l.length c] w fun e w' => e = .returned (.bool (hasStranger (rowOf l))) ∧ Below w.heap.size w w' := by
  have hI := ids_any (c := c) hN hl
  have he := hasStranger_eq (l := l)
  obtain ⟨s, hs⟩ : ∃ s, s = hasStranger (rowOf l) := ⟨_, rfl⟩
  rw [← hs] at he ⊢
  have HI := Lib.hid hI
  have HN := Lib.hid hN
  have HD := Lib.hid hd
  have HE := Lib.hid he
  clear hN hI hd hs he
  go_enter Tryz.func34, Tryz.ntmps34
  go_wp2_with fail
  refine HI.out.mono ?_
  rintro e w1 ⟨b, rfl, hb0, hset, hb1⟩
  have hbA : Below w1.heap.size w1 (w1.alloc (.cells #[.map (some b)] 83)) := (Below.refl _ _).alloc (Nat.le_refl _) _
  have hcell : (w1.alloc (.cells #[.map (some b)] 83)).cell? ⟨w1.heap.size, 0, none⟩ = some (.map (some b)) := by
    rw [cell_of_row _ _ 0 _ _ _ (heap_alloc_new w1 _)]
    rfl
  have hbW : Below w.heap.size w (w1.alloc (.cells #[.map (some b)] 83)) := hb1.trans (hbA.mono hb1.size)
  have hCF := containsFunc_any (c := c) (HN.out.below hbW) (by omega) 52 #[.pointer (some ⟨w1.heap.size, 0, none⟩)] (enters_of Tryz.func52 (by kernel_rfl) rfl) (fun v => !v.deps.all fun d => (idSet l).contains d)
    (fun W2 v hv hb => hasStranger1_any v (((HN.out.each v hv).below hbW).below hb) (HD.out v hv) ((hset.below hbA).below hb) (stays hb hcell))
  rw [← HE.out] at hCF
  have HCF := Lib.hid hCF
  have HB := Lib.hid hbW
  clear hset hb1 hbA hcell hbW hCF HI
  go_wp2_with fail
  refine HCF.out.mono ?_
  rintro e w2 ⟨rfl, hb2⟩
  have HB2 := Lib.hid (HB.out.trans (hb2.mono HB.out.size))
  clear hb2
  go_wp2
  go_ret
  exact ⟨rfl, HB2.out⟩

end Go.Proofs.YtpbnjibomdilhaaGreatDoor.Gph
