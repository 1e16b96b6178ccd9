/- The reference's Order, by its contract. -/
import Derived.Test.YthbaldjdfehhlaaRefMay13
namespace Go.Proofs.Ythbaldjdfehhlaa
open Go.RowKit Gr Go.Sort

/-- a row's order, or none -/
def ordOf (L : Row) : List Int := if mayOf L = 0 then orderOf L else []
theorem ordOf_ok {L : Row} (h : mayOf L = 0) : ordOf L = orderOf L := by simp [ordOf, h]
theorem ordOf_no {L : Row} (h : mayOf L ≠ 0) : ordOf L = [] := by simp [ordOf, h]
theorem ordOf_fit {l : List NodeV} (h : ∀ v ∈ l, U64 v.id) : ∀ x ∈ ordOf (rowOf l), U64 x := fun x hx => by
  unfold ordOf at hx
  split at hx
  · have := (order_gone (rowOf l)).sub x hx
    rw [rowOf_ids] at this
    obtain ⟨v, hv, rfl⟩ := List.mem_map.1 this
    exact h v hv
  · cases hx

/-- is a node ready, as far as k of its Deps? -/
def part (g : List Int) (v : NodeV) (k : Nat) : Bool := !g.contains v.id && (v.deps.take k).all fun d => g.contains d
theorem part_zero (g : List Int) (v : NodeV) : part g v 0 = !g.contains v.id := by simp [part]
theorem part_next (g : List Int) (v : NodeV) {k : Nat} (h : k < v.deps.length) : part g v (k + 1) = (part g v k && g.contains v.deps[k]) := by
  unfold part
  rw [List.take_succ_eq_append_getElem h, List.all_append]
  simp [Bool.and_assoc]
theorem part_all (g : List Int) (v : NodeV) {k : Nat} (h : v.deps.length ≤ k) : part g v k = ready g v.node := by
  unfold part ready NodeV.node
  rw [List.take_of_length_le h]

/-- the best of i nodes -/
def Best (l : List NodeV) (p : NodeV → Bool) (i : Nat) (b : Int) : Prop :=
  (b = -1 ∧ ∀ j (h : j < l.length), j < i → p l[j] = false) ∨ ∃ m, ∃ h : m < l.length, m < i ∧ b = (m : Int) ∧ p l[m] = true ∧ ∀ j (h : j < l.length), j < i → p l[j] = true → l[m].id ≤ l[j].id
theorem Best.start (l : List NodeV) (p : NodeV → Bool) : Best l p 0 (-1) := .inl ⟨rfl, fun j _ hj => absurd hj (by omega)⟩
section
variable {l : List NodeV} {p : NodeV → Bool} {i : Nat} {b : Int}
theorem Best.lt (h : Best l p i b) : -1 ≤ b ∧ b < l.length := by
  rcases h with ⟨rfl, _⟩ | ⟨m, hm, _, rfl, _⟩ <;> omega
theorem Best.skip (h : Best l p i b) (hi : i < l.length) (hp : p l[i] = false) : Best l p (i + 1) b := by
  rcases h with ⟨rfl, h⟩ | ⟨m, hm, hmi, rfl, h1, h2⟩
  · refine .inl ⟨rfl, fun j hj hji => ?_⟩
    rcases Nat.lt_or_ge j i with h3 | h3
    · exact h j hj h3
    · obtain rfl : j = i := by omega
      exact hp
  · refine .inr ⟨m, hm, by omega, rfl, h1, fun j hj hji hpj => ?_⟩
    rcases Nat.lt_or_ge j i with h3 | h3
    · exact h2 j hj h3 hpj
    · obtain rfl : j = i := by omega
      rw [hp] at hpj
      cases hpj
theorem Best.first (h : Best l p i (-1)) (hi : i < l.length) (hp : p l[i] = true) : Best l p (i + 1) (i : Int) := by
  rcases h with ⟨_, h⟩ | ⟨m, hm, hmi, e, h1, h2⟩
  · refine .inr ⟨i, hi, by omega, rfl, hp, fun j hj hji hpj => ?_⟩
    rcases Nat.lt_or_ge j i with h3 | h3
    · rw [h j hj h3] at hpj
      cases hpj
    · obtain rfl : j = i := by omega
      exact Int.le_refl _
  · omega
theorem Best.less {m : Nat} (h : Best l p i (m : Int)) (hm : m < l.length) (hi : i < l.length) (hp : p l[i] = true) (hlt : l[i].id < l[m].id) : Best l p (i + 1) (i : Int) := by
  rcases h with ⟨e, _⟩ | ⟨m', hm', hmi, e, h1, h2⟩
  · omega
  · obtain rfl : m = m' := by omega
    refine .inr ⟨i, hi, by omega, rfl, hp, fun j hj hji hpj => ?_⟩
    rcases Nat.lt_or_ge j i with h3 | h3
    · have := h2 j hj h3 hpj; omega
    · obtain rfl : j = i := by omega
      exact Int.le_refl _
theorem Best.keep {m : Nat} (h : Best l p i (m : Int)) (hm : m < l.length) (hi : i < l.length) (hlt : ¬ l[i].id < l[m].id) : Best l p (i + 1) (m : Int) := by
  rcases h with ⟨e, _⟩ | ⟨m', hm', hmi, e, h1, h2⟩
  · omega
  · obtain rfl : m = m' := by omega
    refine .inr ⟨m, hm, by omega, rfl, h1, fun j hj hji hpj => ?_⟩
    rcases Nat.lt_or_ge j i with h3 | h3
    · exact h2 j hj h3 hpj
    · obtain rfl : j = i := by omega
      omega
/-- the best of all -/
theorem Best.end_ (h : Best l p l.length b) : (b = -1 ∧ ∀ v ∈ l, p v = false) ∨ ∃ m, ∃ h : m < l.length, b = (m : Int) ∧ p l[m] = true ∧ ∀ v ∈ l, p v = true → l[m].id ≤ v.id := by
  rcases h with ⟨rfl, h⟩ | ⟨m, hm, _, rfl, h1, h2⟩
  · refine .inl ⟨rfl, fun v hv => ?_⟩
    obtain ⟨j, hj, rfl⟩ := List.getElem_of_mem hv
    exact h j hj hj
  · refine .inr ⟨m, hm, rfl, h1, fun v hv hp => ?_⟩
    obtain ⟨j, hj, rfl⟩ := List.getElem_of_mem hv
    exact h2 j hj hj hp
end
theorem best_next {l : List NodeV} {g : List Int} {m : Nat} (hm : m < l.length) (h1 : ready g l[m].node = true) (h2 : ∀ v ∈ l, ready g v.node = true → l[m].id ≤ v.id) : next (rowOf l) g = some l[m].id :=
  next_some.2 ⟨mem_cands.2 ⟨l[m].node, List.mem_map_of_mem (List.getElem_mem hm), rfl, h1⟩, fun y hy => by
    obtain ⟨n, hn, rfl, hr⟩ := mem_cands.1 hy
    obtain ⟨v, hv, rfl⟩ := List.mem_map.1 hn
    exact h2 v hv hr⟩
theorem best_none {l : List NodeV} {g : List Int} (h : ∀ v ∈ l, ready g v.node = false) : next (rowOf l) g = none :=
  next_none.2 fun n hn => by
    obtain ⟨v, hv, rfl⟩ := List.mem_map.1 hn
    exact h v hv
theorem Gr.Runs.step {L : Row} {g o : List Int} (h : Runs L g o) {x : Int} (hx : Gr.next L g = some x) : Runs L (g ++ [x]) o := by
  cases h with
  | stop h => rw [h] at hx; cases hx
  | go h r => rw [h] at hx; cases hx; exact r
theorem Gr.Runs.done {L : Row} {g o : List Int} (h : Runs L g o) (hx : Gr.next L g = none) : g = o := by
  cases h with
  | stop _ => rfl
  | go h _ => rw [h] at hx; cases hx

set_option maxRecDepth 100000 in
set_option maxHeartbeats 4000000 in
theorem refOrder_any {w : World} {a : Option Addr} {l : List NodeV} {c : Nat} (hN : NodesF w a l) (hl : l.length ≤ 70) (hdl : ∀ v ∈ l, v.deps.length ≤ 12) (hcl : l.length ≤ c) (hcm : c ≤ maxLen) :
    Calls Try.prog 9 #[.slice a l.length c] w fun e w' => ∃ v, e = .returned (.tuple #[v, .int .i64 (mayOf (rowOf l))]) ∧ RowU w.heap.size v (ordOf (rowOf l)) w' ∧ Below w.heap.size w w' := by
  obtain ⟨i0, hi0, hz0, hz1, hz2⟩ := info_parts infoU64
  have hM := refMay_any hN hl hdl hcl hcm
  obtain ⟨r, hr⟩ : ∃ r, r = mayOf (rowOf l) := ⟨_, rfl⟩
  rw [← hr] at hM ⊢
  have HR := Lib.hid hr
  have HM := Lib.hid hM
  clear hr hM
  have HN := Lib.hid hN
  obtain ⟨⟨b0, q, ha, hc⟩, heach⟩ := hN
  have HA := Lib.hid ha
  have HC := Lib.hid hc
  have HE := Lib.hid heach
  have HD := Lib.hid hdl
  clear ha hc heach hdl
  go_enter Try.func9, Try.ntmps9
  go_wp2_with fail
  refine HM.out.mono ?_
  rintro e w0 ⟨rfl, hb0⟩
  have HB0 := Lib.hid hb0
  clear hb0
  by_cases hr0 : r = 0
  · have hmay : May (rowOf l) := may_iff.1 (HR.out ▸ hr0)
    have hfull := hmay.full
    rw [rowOf_len] at hfull
    have HOK := Lib.hid (show ordOf (rowOf l) = orderOf (rowOf l) from ordOf_ok (HR.out ▸ hr0))
    have HMAY := Lib.hid hmay
    have HFULL := Lib.hid hfull
    subst hr0
    clear hmay hfull
    go_wp2
    go_loopg [5] l.length (fun gh v5 wr => ∃ g : List Int, gh + g.length = l.length ∧ RowU w.heap.size v5 g wr ∧ Below w.heap.size w wr ∧ Runs (rowOf l) g (orderOf (rowOf l)) ∧ Gone (rowOf l) g)
    case atStart => exact ⟨[], by simp, RowU.nil _ _, HB0.out, runs_order _, Gone.nil _⟩
    case round =>
      obtain ⟨g, hgl, hrow, hbel, hruns, hgone⟩ := hrel
      obtain ⟨oa, oc, rfl⟩ := hrow.shape
      have HROW := Lib.hid hrow
      have HB := Lib.hid hbel
      have HRUNS := Lib.hid hruns
      have HGONE := Lib.hid hgone
      have HGL := Lib.hid hgl
      have hgfit : ∀ x ∈ g, U64 x := fun x hx => by
        have := hgone.sub x hx
        rw [rowOf_ids] at this
        obtain ⟨v, hv, rfl⟩ := List.mem_map.1 this
        exact (HE.out v hv).id
      have HGF := Lib.hid hgfit
      clear hrow hbel hruns hgone hgfit HB0
      by_cases hlt0 : g.length < l.length
      · have hd0 : decide ((g.length : Int) < (l.length : Int)) = true := by simp; omega
        clear hgl
        go_wp2
        clear hd0
        go_loopw [6, 7] (fun v6 v7 wr => ∃ (i : Nat) (b : Int), v7 = .int .i64 (i : Int) ∧ v6 = .int .i64 b ∧ i ≤ l.length ∧ Best l (fun v => ready g v.node) i b ∧ RowU w.heap.size (.slice oa g.length oc) g wr ∧ Below w.heap.size w wr) (fun _ v7 _ => l.length - (intOf v7).toNat)
        case atStart => exact ⟨0, -1, rfl, rfl, Nat.zero_le _, Best.start _ _, HROW.out, HB.out⟩
        case round =>
          clear HROW HB
          obtain ⟨i, b, rfl, rfl, hi, hbest, hrow, hbel⟩ := hrel
          have HROW := Lib.hid hrow
          have HB := Lib.hid hbel
          have HBEST := Lib.hid hbest
          have hbl := hbest.lt
          clear hrow hbel hbest
          by_cases hlt : i < l.length
          · obtain ⟨hg, hc1, hc2⟩ := HC.out i hlt
            have ea := HA.out (by intro e; subst e; simp at hlt)
            cases ea
            have hd1 := (HB.out.cell (p := ⟨b0, q + i * 2, none⟩) hg).trans hc1
            have hd : decide ((i : Int) < (l.length : Int)) = true := by simp; omega
            have hv2 := HE.out l[i] (List.getElem_mem hlt)
            have hvd := HD.out l[i] (List.getElem_mem hlt)
            obtain ⟨⟨vid, vda, vdc, vdeps⟩, hv⟩ : ∃ v, l[i] = v := ⟨_, rfl⟩
            rw [hv] at hd1 hc1 hc2 hv2 hvd
            have HV := Lib.hid hv
            have HV2 := Lib.hid hv2
            have HC1 := Lib.hid hc1
            have HC2 := Lib.hid hc2
            have hH := refHas_any (c := oc) (HROW.out.read HGF.out).1 (by omega) vid
            obtain ⟨s, hs⟩ : ∃ s, s = g.contains vid := ⟨_, rfl⟩
            rw [← hs] at hH
            have HH := Lib.hid hH
            have HS := Lib.hid hs
            clear hv hv2 hc1 hc2 hH hs
            go_wp2_with fail
            refine HH.out.mono ?_
            rintro e w1 ⟨rfl, rfl⟩
            go_wp2
            clear hd hd1
            go_loopw [8, 9] (fun v8 v9 wr => ∃ (k : Nat) (rd : Bool), v9 = .int .i64 (k : Int) ∧ v8 = .bool rd ∧ rd = part g ⟨vid, vda, vdc, vdeps⟩ k ∧ k ≤ vdeps.length ∧ RowU w.heap.size (.slice oa g.length oc) g wr ∧ Below w.heap.size w wr) (fun _ v9 _ => vdeps.length - (intOf v9).toNat)
            case atStart => exact ⟨0, !s, rfl, rfl, by rw [part_zero]; show _ = !g.contains vid; rw [← HS.out], Nat.zero_le _, HROW.out, HB.out⟩
            case round =>
              clear HROW HB HH
              obtain ⟨k, rd, rfl, rfl, hrd, hk, hrow, hbel⟩ := hrel
              have HROW := Lib.hid hrow
              have HB := Lib.hid hbel
              have HRD := Lib.hid hrd
              have hd1 := (HB.out.cell (p := ⟨b0, q + i * 2, none⟩) hg).trans HC1.out
              have hd2 := (HB.out.cell (p := ⟨b0, q + i * 2 + 1, none⟩) hg).trans HC2.out
              have hdi : decide ((i : Int) < (l.length : Int)) = true := by simp; omega
              clear hrow hbel hrd
              by_cases hkt : k < vdeps.length
              · obtain ⟨⟨dg, dq, hda, hdc⟩, hdf⟩ := HV2.out.deps
                obtain ⟨hdg, hdx⟩ := hdc k hkt
                have ed := hda (by intro e; simp only at e; subst e; simp at hkt)
                simp only at ed
                cases ed
                have hd3 := (HB.out.cell (p := ⟨dg, dq + k, none⟩) hdg).trans hdx
                have hpn := part_next g ⟨vid, some ⟨dg, dq, none⟩, vdc, vdeps⟩ hkt
                simp only at hpn
                obtain ⟨d, hdd⟩ : ∃ d, vdeps[k] = d := ⟨_, rfl⟩
                simp only [hdd] at hd3 hdx hpn
                have HPN := Lib.hid hpn
                have hdk : decide ((k : Int) < (vdeps.length : Int)) = true := by simp; omega
                have hH := refHas_any (c := oc) (HROW.out.read HGF.out).1 (by omega) d
                obtain ⟨s2, hs2⟩ : ∃ s, s = g.contains d := ⟨_, rfl⟩
                rw [← hs2] at hH
                have HH := Lib.hid hH
                have HS2 := Lib.hid hs2
                clear hda hdc hdf hdx hdd hdg hpn hH hs2
                cases rd with
                | true =>
                  go_wp2_with fail
                  refine HH.out.mono ?_
                  rintro e w1 ⟨rfl, rfl⟩
                  go_wp2
                  go_roundw
                  case rel => exact ⟨k + 1, s2, by go_num, rfl, by rw [HPN.out, ← HRD.out, ← HS2.out]; rfl, by omega, HROW.out, HB.out⟩
                  case measure => simp [intOf]; omega
                | false =>
                  go_wp2
                  go_roundw
                  case rel => exact ⟨k + 1, false, by go_num, rfl, by rw [HPN.out, ← HRD.out]; rfl, by omega, HROW.out, HB.out⟩
                  case measure => simp [intOf]; omega
              · have hdk : decide ((k : Int) < (vdeps.length : Int)) = false := by simp; omega
                have hrdy : rd = ready g l[i].node := by rw [HRD.out, HV.out]; exact part_all g _ (by show vdeps.length ≤ k; omega)
                have HRDY := Lib.hid hrdy
                clear hrdy
                cases rd with
                | false =>
                  go_wp2_with fail
                  go_region
                  go_wp2
                  go_roundw
                  case rel => exact ⟨i + 1, b, by go_num, rfl, by omega, HBEST.out.skip hlt HRDY.out.symm, HROW.out.below (bel_drewN (Below.refl _ _) _), bel_drewN HB.out _⟩
                  case measure => simp [intOf]; omega
                | true =>
                  by_cases hbn : b < 0
                  · obtain rfl : b = -1 := by omega
                    go_wp2_with fail
                    go_region
                    go_wp2
                    go_roundw
                    case rel => exact ⟨i + 1, (i : Int), by go_num, rfl, by omega, HBEST.out.first hlt HRDY.out.symm, HROW.out.below (bel_drewN (Below.refl _ _) _), bel_drewN HB.out _⟩
                    case measure => simp [intOf]; omega
                  · obtain ⟨m, rfl⟩ : ∃ m : Nat, b = (m : Int) := ⟨b.toNat, by omega⟩
                    have hm : m < l.length := by omega
                    obtain ⟨hgm, hm1, hm2⟩ := HC.out m hm
                    have hdm := (HB.out.cell (p := ⟨b0, q + m * 2, none⟩) hgm).trans hm1
                    obtain ⟨y, hy⟩ : ∃ y, l[m].id = y := ⟨_, rfl⟩
                    rw [hy] at hdm
                    have HY := Lib.hid hy
                    have hbng : decide ((m : Int) < 0) = false := by simp
                    clear hy hm1 hm2 hgm
                    by_cases hlx : vid < y
                    · have hlxg : decide (vid < y) = true := by simp; omega
                      go_wp2_with fail
                      go_region
                      go_wp2
                      go_roundw
                      case rel => exact ⟨i + 1, (i : Int), by go_num, rfl, by omega, HBEST.out.less hm hlt HRDY.out.symm (by rw [HV.out, HY.out]; show vid < y; omega), HROW.out.below (bel_drewN (Below.refl _ _) _), bel_drewN HB.out _⟩
                      case measure => simp [intOf]; omega
                    · have hlxg : decide (vid < y) = false := by simp; omega
                      go_wp2_with fail
                      go_region
                      go_wp2
                      go_roundw
                      case rel => exact ⟨i + 1, (m : Int), by go_num, rfl, by omega, HBEST.out.keep hm hlt (by rw [HV.out, HY.out]; show ¬ vid < y; omega), HROW.out.below (bel_drewN (Below.refl _ _) _), bel_drewN HB.out _⟩
                      case measure => simp [intOf]; omega
          · obtain rfl : i = l.length := by omega
            have hd : decide ((l.length : Int) < (l.length : Int)) = false := by simp
            rcases HBEST.out.end_ with ⟨rfl, hnone⟩ | ⟨m, hm, rfl, hrm, hle⟩
            · exfalso
              have hn := best_none hnone
              have : g = orderOf (rowOf l) := Runs.done HRUNS.out hn
              rw [this, HFULL.out] at hlt0
              omega
            · have hnx := best_next hm hrm hle
              have hrun2 := HRUNS.out.step hnx
              have hgone2 := HGONE.out.next hnx
              obtain ⟨hgm, hm1, hm2⟩ := HC.out m hm
              have ea := HA.out (by intro e; subst e; simp at hm)
              cases ea
              have hdm := (HB.out.cell (p := ⟨b0, q + m * 2, none⟩) hgm).trans hm1
              obtain ⟨y, hy⟩ : ∃ y, l[m].id = y := ⟨_, rfl⟩
              rw [hy] at hdm hrun2 hgone2
              have HRUN2 := Lib.hid hrun2
              have HGONE2 := Lib.hid hgone2
              have hbng : decide ((m : Int) < 0) = false := by simp
              have hbng2 : decide ((m : Int) < (l.length : Int)) = true := by simp; omega
              have hown := HROW.out.own
              have hszw := HB.out.size
              clear hy hm1 hm2 hgm hnx hrun2 hgone2 hrm hle
              go_wp2_with (at_builtin; refine wpList_append_own _ rfl _ _ 26 rfl w.heap.size 23 i0 (.int .u64 0) 1 8 Try.underlying26 hi0 hz0 hz1 hz2 rfl (by decide) _ _ _ rfl (hown.alloc _) ⟨wr.heap.size, 0, none⟩ 1 1 [.int .u64 y] rfl rfl (cell_one_new _ _ _) (by simp [Value.oneCell']) (by unfold maxLen; omega) (by omega) (by simp; omega) ?_)
              intro v' w6 hown' hgrow _
              have hr6 := RowU.snoc hown'
              have hb6 : Below w.heap.size w w6 := (HROW.out.below ((Below.refl _ _).alloc (Nat.le_refl _) (.cells #[.int .u64 y] 23))).grown (HB.out.alloc HB.out.size _) (by simp; omega) hgrow
              have HR6 := Lib.hid hr6
              have HB6 := Lib.hid hb6
              clear hown' hgrow hr6 hb6 hown
              go_wp2
              go_roundg (l.length - (g.length + 1))
              case measure => have := HGL.out; omega
              case rel => exact ⟨g ++ [y], by simp; omega, HR6.out, HB6.out, HRUN2.out, HGONE2.out⟩
      · have hd0 : decide ((g.length : Int) < (l.length : Int)) = false := by simp; omega
        go_wp2
        go_ret2
        have hn : g = orderOf (rowOf l) := Runs.done HRUNS.out (HGONE.out.full (by rw [rowOf_len]; omega))
        exact ⟨_, rfl, by rw [HOK.out, ← hn]; exact HROW.out, HB.out⟩
  · have hr0b : (r == 0) = false := by simpa using hr0
    have HNO := Lib.hid (show ordOf (rowOf l) = [] from ordOf_no (HR.out ▸ hr0))
    clear HM
    go_wp2
    go_ret2
    exact ⟨_, rfl, by rw [HNO.out]; exact RowU.nil _ _, HB0.out⟩

end Go.Proofs.Ythbaldjdfehhlaa
