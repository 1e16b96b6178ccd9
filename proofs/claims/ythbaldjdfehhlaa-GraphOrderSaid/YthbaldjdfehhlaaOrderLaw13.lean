/- The law GraphOrder: its walk. -/
import Derived.Test.YthbaldjdfehhlaaMore13
namespace Go.Proofs.Ythbaldjdfehhlaa
open Go.RowKit Gr Go.Sort

/-- who is before, or at the same place, reaches not -/
theorem order_apart {l : List NodeV} (h : May (rowOf l)) {i k : Nat} (hi : i < (orderOf (rowOf l)).length) (hk : k < (orderOf (rowOf l)).length) (hik : i ≤ k) : ¬ Path (rowOf l) (orderOf (rowOf l))[i] (orderOf (rowOf l))[k] :=
  (order_topo h.nodup).no_path (order_gone (rowOf l)).nodup (List.getElem?_eq_getElem hi) (List.getElem?_eq_getElem hk) hik

set_option maxRecDepth 100000 in
set_option maxHeartbeats 8000000 in
theorem order_in {w : World} {a : Option Addr} {l : List NodeV} {c : Nat} (hN : NodesF w a l) (hlc : l.length ≤ c) (hcm : c ≤ 9223372036854775807) (hnil : ∀ v ∈ l, v.da = none → v.deps.length = 0 ∧ v.dc = 0) (x y : Int) :
    Calls Try.prog 4 #[.slice a l.length c, .int .i64 x, .int .i64 y] w fun e w' => e = .returned (.bool true) ∧ Below w.heap.size w w' := by
  have HN := Lib.hid hN
  have HK := Lib.hid (known_any w)
  clear hN
  go_enter Try.func4, Try.ntmps4
  go_wp2_with fail
  refine HK.out.mono ?_
  rintro e w1 ⟨rfl, hb1⟩
  have HN1 := Lib.hid (HN.out.below hb1)
  have HB1 := Lib.hid hb1
  have HG := Lib.hid (great_any (c := c) HN1.out (by omega))
  obtain ⟨r, hr⟩ : ∃ r, greatOf l = r := ⟨_, rfl⟩
  rw [hr] at HG
  have HR := Lib.hid hr
  clear HK hb1 hr
  cases r with
  | true =>
    go_wp2_with fail
    refine HG.out.mono ?_
    rintro e w2 ⟨rfl, rfl⟩
    go_wp2_with fail
    go_ret
    exact ⟨rfl, HB1.out⟩
  | false =>
    obtain ⟨hl, hdl⟩ := great_no HR.out
    have HD2 := Lib.hid (fun v hv => Nat.le_trans (hdl v hv) (by omega) : ∀ v ∈ l, v.deps.length ≤ 100000)
    obtain ⟨m, hm⟩ : ∃ m, mayOf (rowOf l) = m := ⟨_, rfl⟩
    obtain ⟨o, ho⟩ : ∃ o, ordOf (rowOf l) = o := ⟨_, rfl⟩
    have HFO := Lib.hid (ho ▸ ordOf_fit (fun v hv => (HN1.out.each v hv).id) : ∀ z ∈ o, U64 z)
    have HM := Lib.hid hm
    have HO := Lib.hid ho
    have hdl2 := hdl
    have HDL2 := Lib.hid hdl2
    clear hdl hdl2 hm ho
    go_wp2_with fail
    refine HG.out.mono ?_
    rintro e w2 ⟨rfl, rfl⟩
    have C := Lib.hid (order_any (c := c) HN1.out (by omega) HD2.out)
    clear HG
    go_wp2_with fail
    refine C.out.mono ?_
    rintro e w3 ⟨v, rfl, hrow, hb⟩
    rw [HO.out] at hrow
    rw [HM.out]
    obtain ⟨va, vc, rfl⟩ := hrow.shape
    have HN3 := Lib.hid (HN1.out.below hb)
    have HC3 := Lib.hid (HB1.out.trans (hb.mono HB1.out.size))
    have HV := Lib.hid (hrow.read HFO.out).1
    clear C hrow hb
    by_cases h131 : m = 131
    · subst h131
      obtain ⟨hnd, hcl, h64, a0, ha0, hp0⟩ := may_circle HM.out
      have HP0 := Lib.hid (And.intro ha0 hp0)
      obtain ⟨⟨b0, q, ha, hc⟩, heach⟩ := HN3.out
      have HA := Lib.hid ha
      have HC := Lib.hid hc
      clear ha hc heach hnd hcl ha0 hp0
      go_wp2_with fail
      go_loopw [6, 9] (fun _ v wr => Below w3.heap.size w3 wr ∧ ∃ i : Nat, v = .int .i64 (i : Int) ∧ i ≤ l.length ∧ ∀ j (hj : j < l.length), j < i → ¬ Path (rowOf l) l[j].id l[j].id) (fun _ v _ => l.length - (intOf v).toNat)
      case atStart => exact ⟨Below.refl _ _, 0, rfl, Nat.zero_le _, fun j _ hj => absurd hj (by omega)⟩
      case round =>
        obtain ⟨hb, i, rfl, hi, hall⟩ := hrel
        have HALL := Lib.hid hall
        have HB := Lib.hid hb
        clear hall hb
        by_cases hlt : i < l.length
        · obtain ⟨hg, hc1, hc2⟩ := HC.out i hlt
          have ea := HA.out (by intro e; subst e; simp at hlt)
          cases ea
          have hd1 := (HB.out.cell (p := ⟨b0, q + i * 2, none⟩) hg).trans hc1
          have hd : decide ((i : Int) < (l.length : Int)) = true := by simp; omega
          obtain ⟨v, hv⟩ : ∃ v, l[i] = v := ⟨_, rfl⟩
          rw [hv] at hd1
          have HV2 := Lib.hid hv
          have HRE := Lib.hid (fun W (h : Below wr.heap.size wr W) => reach_any (c := c) ((HN3.out.below HB.out).below h) (by omega) HD2.out v.id v.id)
          clear hv hc1 hc2
          go_wp2_with fail
          go_region_held3 (fun W => W.cell? ⟨b0, q + i * 2, none⟩ = some (.int .u64 v.id) ∧ Below wr.heap.size wr W)
            (first
              | exact ⟨hd1, (Below.refl _ _).drew⟩
              | go_keep
              | (go_split_ands; exact ⟨stays hb9 (by assumption), Below.trans (by assumption) (hb9.mono (Below.size (by assumption)))⟩))
            (first
              | (go_at_call 15; (try go_split_ands); with_reducible refine (HRE.out _ (by assumption)).mono ?_; rintro e w9 ⟨b9, rfl, hi9, hb9⟩))
          have hbw9 : Below wr.heap.size wr w9 := by (try go_split_ands); assumption
          have HB9 := Lib.hid (HB.out.trans (hbw9.mono HB.out.size))
          have HI9 := Lib.hid hi9
          clear hi9 hb9 hbw9
          cases b9 with
          | true =>
            go_wp2
            go_ret
            exact ⟨by first | rfl | trivial, HC3.out.trans (HB9.out.mono HC3.out.size)⟩
          | false =>
            go_wp2
            go_roundw
            case rel => exact ⟨HB9.out, i + 1, by go_num, by omega, fun j hj hji => by
              rcases Nat.lt_or_ge j i with h1 | h1
              · exact HALL.out j hj h1
              · obtain rfl : j = i := by omega
                rw [HV2.out]
                intro p
                have := HI9.out.2 ⟨by rwa [rowOf_len] at h64, p⟩
                cases this⟩
            case measure => simp [intOf]; omega
        · exfalso
          obtain ⟨ha0, hp0⟩ := HP0.out
          rw [rowOf_ids] at ha0
          obtain ⟨v, hv, rfl⟩ := List.mem_map.1 ha0
          obtain ⟨j, hj, rfl⟩ := List.getElem_of_mem hv
          exact HALL.out j hj (by omega) hp0
    · by_cases h0 : m = 0
      · subst h0
        have hmay := (may_iff).1 HM.out
        have hoe : o = orderOf (rowOf l) := by rw [← HO.out, ordOf_ok HM.out]
        have hol : o.length = l.length := by rw [hoe, hmay.full, rowOf_len]
        have hap : ∀ i k (hi : i < o.length) (hk : k < o.length), i ≤ k → ¬ Path (rowOf l) o[i] o[k] := by
          subst hoe
          exact fun i k hi hk hik => order_apart hmay hi hk hik
        have hnd : o.Nodup := by rw [hoe]; exact (order_gone _).nodup
        have HMAY := Lib.hid hmay
        have HAP := Lib.hid hap
        have HND := Lib.hid hnd
        obtain ⟨⟨g, q, ha, hc⟩, _⟩ := HV.out
        have HA := Lib.hid ha
        have HC := Lib.hid hc
        clear hmay hoe hap hnd ha hc
        go_wp2_with fail
        have HOL := Lib.hid hol
        clear hol
        go_loopw [6, 10] (fun _ v wr => Below w3.heap.size w3 wr ∧ ∃ i : Nat, v = .int .i64 (i : Int) ∧ i ≤ l.length) (fun _ v _ => l.length - (intOf v).toNat)
        case atStart => exact ⟨Below.refl _ _, 0, rfl, Nat.zero_le _⟩
        case round =>
          obtain ⟨hb, i, rfl, hi⟩ := hrel
          have HB := Lib.hid hb
          clear hb
          by_cases hlt : i < l.length
          · have hd : decide ((i : Int) < (l.length : Int)) = true := by simp; omega
            go_wp2_with fail
            clear hd
            go_loopw [6, 11] (fun _ v wr => Below w3.heap.size w3 wr ∧ ∃ k : Nat, v = .int .i64 (k : Int) ∧ i ≤ k ∧ k ≤ l.length) (fun _ v _ => l.length - (intOf v).toNat)
            case atStart => exact ⟨HB.out, i, rfl, Nat.le_refl _, hi⟩
            case round =>
              clear HB
              obtain ⟨hb, k, rfl, hik, hk⟩ := hrel
              have HB := Lib.hid hb
              clear hb
              by_cases hlt2 : k < l.length
              · have hd : decide ((k : Int) < (l.length : Int)) = true := by simp; omega
                have hio : i < o.length := by rw [HOL.out]; exact hlt
                have hko : k < o.length := by rw [HOL.out]; exact hlt2
                obtain ⟨hg, hc1⟩ := HC.out i hio
                obtain ⟨_, hc2⟩ := HC.out k hko
                have ea := HA.out (by intro e; subst e; simp at hio)
                cases ea
                have hd1 := (HB.out.cell (p := ⟨g, q + i, none⟩) hg).trans hc1
                have hd2 := (HB.out.cell (p := ⟨g, q + k, none⟩) hg).trans hc2
                have hno := HAP.out i k hio hko hik
                have hne : i < k → o[i] ≠ o[k] := fun h e => by
                  have := nodup_inj HND.out hio hko e
                  omega
                obtain ⟨z1, hz1⟩ : ∃ z, o[i] = z := ⟨_, rfl⟩
                obtain ⟨z2, hz2⟩ : ∃ z, o[k] = z := ⟨_, rfl⟩
                rw [hz1] at hd1 hno hne
                rw [hz2] at hd2 hno hne
                have HNE := Lib.hid hne
                have hre : ∀ W, Below wr.heap.size wr W → Calls Try.prog 15 #[.slice a l.length c, .int .u64 z1, .int .u64 z2] W fun e w' => e = .returned (.bool false) ∧ Below W.heap.size W w' := fun W h => (reach_any (c := c) ((HN3.out.below HB.out).below h) (by omega) HD2.out z1 z2).mono fun e w' ⟨b, h1, h2, h3⟩ => by
                  cases b with
                  | false => exact ⟨h1, h3⟩
                  | true => exact absurd (h2.1 rfl).2 hno
                have HRE := Lib.hid hre
                clear hre hz1 hz2 hc1 hc2 hno hne
                by_cases hki : i < k
                · have hdk : decide ((i : Int) < (k : Int)) = true := by simp; omega
                  have hnz := HNE.out hki
                  clear HNE
                  go_wp2_with fail
                  go_region_held3 (fun W => W.cell? ⟨g, q + i, none⟩ = some (.int .u64 z1) ∧ W.cell? ⟨g, q + k, none⟩ = some (.int .u64 z2) ∧ Below wr.heap.size wr W)
                    (first
                      | exact ⟨hd1, hd2, (Below.refl _ _).drew⟩
                      | go_keep
                      | (go_split_ands; exact ⟨stays hb9 (by assumption), stays hb9 (by assumption), Below.trans (by assumption) (hb9.mono (Below.size (by assumption)))⟩))
                    (first
                      | (go_at_call 15; (try go_split_ands); with_reducible refine (HRE.out _ (by assumption)).mono ?_; rintro e w9 ⟨rfl, hb9⟩))
                  have hbw9 : Below wr.heap.size wr w9 := by first | exact hb9 | ((try go_split_ands); assumption)
                  have HB9 := Lib.hid (HB.out.trans (hbw9.mono HB.out.size))
                  clear hb9 hbw9
                  go_wp2
                  go_roundw
                  case rel => exact ⟨HB9.out, k + 1, by go_num, by omega, by omega⟩
                  case measure => simp [intOf]; omega
                · have hdk : decide ((i : Int) < (k : Int)) = false := by simp; omega
                  clear HNE
                  go_wp2_with fail
                  refine wp_region_held_drew (S := fun W => W.cell? ⟨g, q + i, none⟩ = some (.int .u64 z1) ∧ W.cell? ⟨g, q + k, none⟩ = some (.int .u64 z2) ∧ Below wr.heap.size wr W) (by kernel_rfl) ⟨hd1, hd2, (Below.refl _ _).drew⟩ (fun hHeld => ?_)
                  refine wpAnyH_take (i := 0) (oi := ?_) (v := ?_) ?_ (by kernel_rfl) (by kernel_rfl) (by kernel_rfl) ?_ (Or.inl ⟨?_, ?_⟩) (by assumption) ?_
                  rotate_left 2
                  focus (simp only [List.getElem?_toArray, List.getElem?_cons_zero]; rfl)
                  focus exact fun _ _ _ h => h
                  focus rfl
                  focus (intro W hS; (try dsimp only at hS); have q1 := hS.1; have q2 := hS.2.1; go_simp; (try with_reducible rfl))
                  try simp only [Act.put]
                  try simp only [List.setIfInBounds_toArray]
                  try simp only [List.set_cons_succ]
                  try simp only [List.set_cons_zero]
                  refine wpAnyH_take (i := 1) (oi := ?_) (v := ?_) ?_ (by kernel_rfl) (by kernel_rfl) (by kernel_rfl) ?_ (Or.inl ⟨?_, ?_⟩) (by assumption) ?_
                  rotate_left 2
                  focus (simp only [List.getElem?_toArray, List.getElem?_cons_succ, List.getElem?_cons_zero]; rfl)
                  focus exact fun _ _ _ h => h
                  focus rfl
                  focus (intro W hS; (try dsimp only at hS); have q1 := hS.1; have q2 := hS.2.1; go_simp; (try with_reducible rfl))
                  try simp only [Act.put]
                  try simp only [List.setIfInBounds_toArray]
                  try simp only [List.set_cons_succ]
                  try simp only [List.set_cons_zero]
                  refine wpAnyH_take (i := 2) (oi := ?_) (v := ?_) ?_ (by kernel_rfl) (by kernel_rfl) (by kernel_rfl) ?_ (Or.inl ⟨?_, ?_⟩) (by assumption) ?_
                  rotate_left 2
                  focus (simp only [List.getElem?_toArray, List.getElem?_cons_succ, List.getElem?_cons_zero]; rfl)
                  focus exact fun _ _ _ h => h
                  focus rfl
                  focus (intro W hS; (try dsimp only at hS); have q1 := hS.1; have q2 := hS.2.1; go_simp; (try with_reducible rfl))
                  try simp only [Act.put]
                  try simp only [List.setIfInBounds_toArray]
                  try simp only [List.set_cons_succ]
                  try simp only [List.set_cons_zero]
                  refine wpAnyH_take (i := 3) (oi := ?_) (v := ?_) ?_ (by kernel_rfl) (by kernel_rfl) (by kernel_rfl) ?_ (Or.inl ⟨?_, ?_⟩) (by assumption) ?_
                  rotate_left 2
                  focus (simp only [List.getElem?_toArray, List.getElem?_cons_succ, List.getElem?_cons_zero]; rfl)
                  focus exact fun _ _ _ h => h
                  focus rfl
                  focus (intro W hS; (try dsimp only at hS); have q1 := hS.1; have q2 := hS.2.1; go_simp; (try with_reducible rfl))
                  try simp only [Act.put]
                  try simp only [List.setIfInBounds_toArray]
                  try simp only [List.set_cons_succ]
                  try simp only [List.set_cons_zero]
                  refine wpAnyH_take (i := 4) (oi := ?_) (v := ?_) ?_ (by kernel_rfl) (by kernel_rfl) (by kernel_rfl) ?_ (Or.inl ⟨?_, ?_⟩) (by assumption) ?_
                  rotate_left 2
                  focus (simp only [List.getElem?_toArray, List.getElem?_cons_succ, List.getElem?_cons_zero]; rfl)
                  focus exact fun _ _ _ h => h
                  focus rfl
                  focus (intro W hS; (try dsimp only at hS); have q1 := hS.1; have q2 := hS.2.1; go_simp; (try with_reducible rfl))
                  try simp only [Act.put]
                  try simp only [List.setIfInBounds_toArray]
                  try simp only [List.set_cons_succ]
                  try simp only [List.set_cons_zero]
                  refine wpAnyH_take (i := 5) (oi := ?_) (v := ?_) ?_ (by kernel_rfl) (by kernel_rfl) (by kernel_rfl) ?_ (Or.inl ⟨?_, ?_⟩) (by assumption) ?_
                  rotate_left 2
                  focus (simp only [List.getElem?_toArray, List.getElem?_cons_succ, List.getElem?_cons_zero]; rfl)
                  focus exact fun _ _ _ h => h
                  focus rfl
                  focus (intro W hS; (try dsimp only at hS); have q1 := hS.1; have q2 := hS.2.1; go_simp; (try with_reducible rfl))
                  try simp only [Act.put]
                  try simp only [List.setIfInBounds_toArray]
                  try simp only [List.set_cons_succ]
                  try simp only [List.set_cons_zero]
                  refine wpAnyH_take (i := 6) (oi := ?_) (v := ?_) ?_ (by kernel_rfl) (by kernel_rfl) (by kernel_rfl) ?_ (Or.inl ⟨?_, ?_⟩) (by assumption) ?_
                  rotate_left 2
                  focus (simp only [List.getElem?_toArray, List.getElem?_cons_succ, List.getElem?_cons_zero]; rfl)
                  focus exact fun _ _ _ h => h
                  focus rfl
                  focus (intro W hS; (try dsimp only at hS); have q1 := hS.1; have q2 := hS.2.1; go_simp; (try with_reducible rfl))
                  try simp only [Act.put]
                  try simp only [List.setIfInBounds_toArray]
                  try simp only [List.set_cons_succ]
                  try simp only [List.set_cons_zero]
                  refine wpAnyH_take (i := 7) (oi := ?_) (v := ?_) ?_ (by kernel_rfl) (by kernel_rfl) (by kernel_rfl) ?_ (Or.inl ⟨?_, ?_⟩) (by assumption) ?_
                  rotate_left 2
                  focus (simp only [List.getElem?_toArray, List.getElem?_cons_succ, List.getElem?_cons_zero]; rfl)
                  focus exact fun _ _ _ h => h
                  focus rfl
                  focus (intro W hS; (try dsimp only at hS); have q1 := hS.1; have q2 := hS.2.1; go_simp; (try with_reducible rfl))
                  try simp only [Act.put]
                  try simp only [List.setIfInBounds_toArray]
                  try simp only [List.set_cons_succ]
                  try simp only [List.set_cons_zero]
                  refine wpAnyH_take (i := 8) (oi := ?_) (v := ?_) ?_ (by kernel_rfl) (by kernel_rfl) (by kernel_rfl) ?_ (Or.inl ⟨?_, ?_⟩) (by assumption) ?_
                  rotate_left 2
                  focus (simp only [List.getElem?_toArray, List.getElem?_cons_succ, List.getElem?_cons_zero]; rfl)
                  focus exact fun _ _ _ h => h
                  focus rfl
                  focus (intro W hS; (try dsimp only at hS); have q1 := hS.1; have q2 := hS.2.1; go_simp; (try with_reducible rfl))
                  try simp only [Act.put]
                  try simp only [List.setIfInBounds_toArray]
                  try simp only [List.set_cons_succ]
                  try simp only [List.set_cons_zero]
                  refine wpAnyH_ready (rs := [9]) (by kernel_rfl) (by simp) ?_
                  refine AllReadyH.cons (o := ?_) ?_ (fun K hK => ?_) AllReadyH.nil
                  rotate_left
                  focus (simp only [List.getElem?_toArray, List.getElem?_cons_succ, List.getElem?_cons_zero]; rfl)
                  rw [if_pos (by rfl)]
                  go_simp
                  refine (HRE.out _ hHeld.2.2).mono ?_
                  rintro e w9 ⟨rfl, hb9⟩
                  go_wp2_with fail
                  refine hK.out _ _ ⟨stays hb9 hHeld.1, stays hb9 hHeld.2.1, hHeld.2.2.trans (hb9.mono hHeld.2.2.size)⟩ (fun hHeld => ?_)
                  clear hK K
                  try simp only [Act.put]
                  try simp only [List.setIfInBounds_toArray]
                  try simp only [List.set_cons_succ]
                  try simp only [List.set_cons_zero]
                  refine wpAnyH_take (i := 10) (oi := ?_) (v := ?_) ?_ (by kernel_rfl) (by kernel_rfl) (by kernel_rfl) ?_ (Or.inl ⟨?_, ?_⟩) (by assumption) ?_
                  rotate_left 2
                  focus (simp only [List.getElem?_toArray, List.getElem?_cons_succ, List.getElem?_cons_zero]; rfl)
                  focus exact fun _ _ _ h => h
                  focus rfl
                  focus (intro W hS; (try dsimp only at hS); have q1 := hS.1; have q2 := hS.2.1; go_simp; (try with_reducible rfl))
                  try simp only [Act.put]
                  try simp only [List.setIfInBounds_toArray]
                  try simp only [List.set_cons_succ]
                  try simp only [List.set_cons_zero]
                  refine wpAnyH_take (i := 11) (oi := ?_) (v := ?_) ?_ (by kernel_rfl) (by kernel_rfl) (by kernel_rfl) ?_ (Or.inl ⟨?_, ?_⟩) (by assumption) ?_
                  rotate_left 2
                  focus (simp only [List.getElem?_toArray, List.getElem?_cons_succ, List.getElem?_cons_zero]; rfl)
                  focus exact fun _ _ _ h => h
                  focus rfl
                  focus (intro W hS; (try dsimp only at hS); have q1 := hS.1; have q2 := hS.2.1; go_simp; (try with_reducible rfl))
                  try simp only [Act.put]
                  try simp only [List.setIfInBounds_toArray]
                  try simp only [List.set_cons_succ]
                  try simp only [List.set_cons_zero]
                  refine wpAnyH_take (i := 12) (oi := ?_) (v := ?_) ?_ (by kernel_rfl) (by kernel_rfl) (by kernel_rfl) ?_ (Or.inl ⟨?_, ?_⟩) (by assumption) ?_
                  rotate_left 2
                  focus (simp only [List.getElem?_toArray, List.getElem?_cons_succ, List.getElem?_cons_zero]; rfl)
                  focus exact fun _ _ _ h => h
                  focus rfl
                  focus (intro W hS; (try dsimp only at hS); have q1 := hS.1; have q2 := hS.2.1; go_simp; (try with_reducible rfl))
                  try simp only [Act.put]
                  try simp only [List.setIfInBounds_toArray]
                  try simp only [List.set_cons_succ]
                  try simp only [List.set_cons_zero]
                  refine wpAnyH_take (i := 13) (oi := ?_) (v := ?_) ?_ (by kernel_rfl) (by kernel_rfl) (by kernel_rfl) ?_ (Or.inl ⟨?_, ?_⟩) (by assumption) ?_
                  rotate_left 2
                  focus (simp only [List.getElem?_toArray, List.getElem?_cons_succ, List.getElem?_cons_zero]; rfl)
                  focus exact fun _ _ _ h => h
                  focus rfl
                  focus (intro W hS; (try dsimp only at hS); have q1 := hS.1; have q2 := hS.2.1; go_simp; (try with_reducible rfl))
                  try simp only [Act.put]
                  try simp only [List.setIfInBounds_toArray]
                  try simp only [List.set_cons_succ]
                  try simp only [List.set_cons_zero]
                  refine wpAnyH_take (i := 14) (oi := ?_) (v := ?_) ?_ (by kernel_rfl) (by kernel_rfl) (by kernel_rfl) ?_ (Or.inl ⟨?_, ?_⟩) (by assumption) ?_
                  rotate_left 2
                  focus (simp only [List.getElem?_toArray, List.getElem?_cons_succ, List.getElem?_cons_zero]; rfl)
                  focus exact fun _ _ _ h => h
                  focus rfl
                  focus (intro W hS; (try dsimp only at hS); have q1 := hS.1; have q2 := hS.2.1; go_simp; (try with_reducible rfl))
                  try simp only [Act.put]
                  try simp only [List.setIfInBounds_toArray]
                  try simp only [List.set_cons_succ]
                  try simp only [List.set_cons_zero]
                  refine wpAnyH_take (i := 15) (oi := ?_) (v := ?_) ?_ (by kernel_rfl) (by kernel_rfl) (by kernel_rfl) ?_ (Or.inr ⟨?_, ?_⟩) (by assumption) ?_
                  rotate_left 2
                  focus (simp only [List.getElem?_toArray, List.getElem?_cons_succ, List.getElem?_cons_zero]; rfl)
                  focus exact fun _ _ _ h => h
                  focus rfl
                  focus rfl
                  try simp only [Act.put]
                  try simp only [List.setIfInBounds_toArray]
                  try simp only [List.set_cons_succ]
                  try simp only [List.set_cons_zero]
                  refine wpAnyH_take (i := 16) (oi := ?_) (v := ?_) ?_ (by kernel_rfl) (by kernel_rfl) (by kernel_rfl) ?_ (Or.inr ⟨?_, ?_⟩) (by assumption) ?_
                  rotate_left 2
                  focus (simp only [List.getElem?_toArray, List.getElem?_cons_succ, List.getElem?_cons_zero]; rfl)
                  focus exact fun _ _ _ h => h
                  focus rfl
                  focus rfl
                  try simp only [Act.put]
                  try simp only [List.setIfInBounds_toArray]
                  try simp only [List.set_cons_succ]
                  try simp only [List.set_cons_zero]
                  refine wpAnyH_take (i := 17) (oi := ?_) (v := ?_) ?_ (by kernel_rfl) (by kernel_rfl) (by kernel_rfl) ?_ (Or.inr ⟨?_, ?_⟩) (by assumption) ?_
                  rotate_left 2
                  focus (simp only [List.getElem?_toArray, List.getElem?_cons_succ, List.getElem?_cons_zero]; rfl)
                  focus exact fun _ _ _ h => h
                  focus rfl
                  focus rfl
                  try simp only [Act.put]
                  try simp only [List.setIfInBounds_toArray]
                  try simp only [List.set_cons_succ]
                  try simp only [List.set_cons_zero]
                  refine wpAnyH_take (i := 18) (oi := ?_) (v := ?_) ?_ (by kernel_rfl) (by kernel_rfl) (by kernel_rfl) ?_ (Or.inr ⟨?_, ?_⟩) (by assumption) ?_
                  rotate_left 2
                  focus (simp only [List.getElem?_toArray, List.getElem?_cons_succ, List.getElem?_cons_zero]; rfl)
                  focus exact fun _ _ _ h => h
                  focus rfl
                  focus rfl
                  try simp only [Act.put]
                  try simp only [List.setIfInBounds_toArray]
                  try simp only [List.set_cons_succ]
                  try simp only [List.set_cons_zero]
                  refine wpAnyH_take (i := 19) (oi := ?_) (v := ?_) ?_ (by kernel_rfl) (by kernel_rfl) (by kernel_rfl) ?_ (Or.inr ⟨?_, ?_⟩) (by assumption) ?_
                  rotate_left 2
                  focus (simp only [List.getElem?_toArray, List.getElem?_cons_succ, List.getElem?_cons_zero]; rfl)
                  focus exact fun _ _ _ h => h
                  focus rfl
                  focus rfl
                  try simp only [Act.put]
                  try simp only [List.setIfInBounds_toArray]
                  try simp only [List.set_cons_succ]
                  try simp only [List.set_cons_zero]
                  refine wpAnyH_take (i := 20) (oi := ?_) (v := ?_) ?_ (by kernel_rfl) (by kernel_rfl) (by kernel_rfl) ?_ (Or.inr ⟨?_, ?_⟩) (by assumption) ?_
                  rotate_left 2
                  focus (simp only [List.getElem?_toArray, List.getElem?_cons_succ, List.getElem?_cons_zero]; rfl)
                  focus exact fun _ _ _ h => h
                  focus rfl
                  focus rfl
                  try simp only [Act.put]
                  try simp only [List.setIfInBounds_toArray]
                  try simp only [List.set_cons_succ]
                  try simp only [List.set_cons_zero]
                  refine wpAnyH_take (i := 21) (oi := ?_) (v := ?_) ?_ (by kernel_rfl) (by kernel_rfl) (by kernel_rfl) ?_ (Or.inr ⟨?_, ?_⟩) (by assumption) ?_
                  rotate_left 2
                  focus (simp only [List.getElem?_toArray, List.getElem?_cons_succ, List.getElem?_cons_zero]; rfl)
                  focus exact fun _ _ _ h => h
                  focus rfl
                  focus rfl
                  try simp only [Act.put]
                  try simp only [List.setIfInBounds_toArray]
                  try simp only [List.set_cons_succ]
                  try simp only [List.set_cons_zero]
                  refine wpAnyH_take (i := 22) (oi := ?_) (v := ?_) ?_ (by kernel_rfl) (by kernel_rfl) (by kernel_rfl) ?_ (Or.inr ⟨?_, ?_⟩) (by assumption) ?_
                  rotate_left 2
                  focus (simp only [List.getElem?_toArray, List.getElem?_cons_succ, List.getElem?_cons_zero]; rfl)
                  focus exact fun _ _ _ h => h
                  focus rfl
                  focus rfl
                  try simp only [Act.put]
                  try simp only [List.setIfInBounds_toArray]
                  try simp only [List.set_cons_succ]
                  try simp only [List.set_cons_zero]
                  refine wpAnyH_take (i := 23) (oi := ?_) (v := ?_) ?_ (by kernel_rfl) (by kernel_rfl) (by kernel_rfl) ?_ (Or.inr ⟨?_, ?_⟩) (by assumption) ?_
                  rotate_left 2
                  focus (simp only [List.getElem?_toArray, List.getElem?_cons_succ, List.getElem?_cons_zero]; rfl)
                  focus exact fun _ _ _ h => h
                  focus rfl
                  focus rfl
                  try simp only [Act.put]
                  try simp only [List.setIfInBounds_toArray]
                  try simp only [List.set_cons_succ]
                  try simp only [List.set_cons_zero]
                  refine wpAnyH_take (i := 24) (oi := ?_) (v := ?_) ?_ (by kernel_rfl) (by kernel_rfl) (by kernel_rfl) ?_ (Or.inl ⟨?_, ?_⟩) (by assumption) ?_
                  rotate_left 2
                  focus (simp only [List.getElem?_toArray, List.getElem?_cons_succ, List.getElem?_cons_zero]; rfl)
                  focus exact fun _ _ _ h => h
                  focus rfl
                  focus (intro W hS; (try dsimp only at hS); have q1 := hS.1; have q2 := hS.2.1; go_simp; (try with_reducible rfl))
                  try simp only [Act.put]
                  try simp only [List.setIfInBounds_toArray]
                  try simp only [List.set_cons_succ]
                  try simp only [List.set_cons_zero]
                  refine wpAnyH_take (i := 25) (oi := ?_) (v := ?_) ?_ (by kernel_rfl) (by kernel_rfl) (by kernel_rfl) ?_ (Or.inl ⟨?_, ?_⟩) (by assumption) ?_
                  rotate_left 2
                  focus (simp only [List.getElem?_toArray, List.getElem?_cons_succ, List.getElem?_cons_zero]; rfl)
                  focus exact fun _ _ _ h => h
                  focus rfl
                  focus (intro W hS; (try dsimp only at hS); have q1 := hS.1; have q2 := hS.2.1; go_simp; (try with_reducible rfl))
                  try simp only [Act.put]
                  try simp only [List.setIfInBounds_toArray]
                  try simp only [List.set_cons_succ]
                  try simp only [List.set_cons_zero]
                  refine wpAnyH_done (by kernel_rfl) ?_ _
                  replace hb9 := hHeld.2.2
                  have hbw9 : Below wr.heap.size wr w9 := by first | exact hb9 | ((try go_split_ands); assumption)
                  have HB9 := Lib.hid (HB.out.trans (hbw9.mono HB.out.size))
                  clear hb9 hbw9
                  go_wp2
                  go_roundw
                  case rel => exact ⟨HB9.out, k + 1, by go_num, by omega, by omega⟩
                  case measure => simp [intOf]; omega
              · have hd : decide ((k : Int) < (l.length : Int)) = false := by simp; omega
                go_wp2_with fail
                go_roundw
                case rel => exact ⟨HB.out, i + 1, by go_num, by omega⟩
                case measure => simp [intOf]; omega
          · have hd : decide ((i : Int) < (l.length : Int)) = false := by simp; omega
            have HNW := Lib.hid (HN3.out.below HB.out)
            have HCW := Lib.hid (HC3.out.trans (HB.out.mono HC3.out.size))
            clear HAP HND HA HC HV HB HN3 HC3
            by_cases hz : l.length = 0
            · obtain rfl := List.eq_nil_of_length_eq_zero hz
              go_wp2_with fail
              go_ret
              exact ⟨by first | rfl | trivial, HCW.out⟩
            have hb0 : ((l.length : Int) == 0) = false := by simp; intro e; rw [e] at hz; exact hz rfl
            have hl0 : 0 < l.length := by omega
            by_cases hx : x < 0
            · have hx0 : decide (x < 0) = true := by simp; omega
              go_wp2_with fail
              go_ret
              exact ⟨by first | rfl | trivial, HCW.out⟩
            have hx0 : decide (x < 0) = false := by simp; omega
            by_cases hy : y < 0
            · have hy0 : decide (y < 0) = true := by simp; omega
              go_wp2_with fail
              go_ret
              exact ⟨by first | rfl | trivial, HCW.out⟩
            have hy0 : decide (y < 0) = false := by simp; omega
            obtain ⟨x, rfl⟩ : ∃ n : Nat, x = (n : Int) := ⟨x.toNat, by omega⟩
            obtain ⟨y, rfl⟩ : ∃ n : Nat, y = (n : Int) := ⟨y.toNat, by omega⟩
            obtain ⟨f, hf⟩ : ∃ f, f = x % l.length := ⟨_, rfl⟩
            obtain ⟨t, ht⟩ : ∃ t, t = y % l.length := ⟨_, rfl⟩
            have hfl : f < l.length := by rw [hf]; exact Nat.mod_lt _ hl0
            have htl : t < l.length := by rw [ht]; exact Nat.mod_lt _ hl0
            have hmf : (x : Int).tmod (l.length : Int) = (f : Int) := by rw [Int.tmod_eq_emod_of_nonneg (by omega), hf]; simp
            have hmt : (y : Int).tmod (l.length : Int) = (t : Int) := by rw [Int.tmod_eq_emod_of_nonneg (by omega), ht]; simp
            clear hz hf ht hx hy
            go_wp2_with fail
            clear hb0 hx0 hy0
            go_quiet (fail)
            obtain ⟨wd, hwd⟩ : ∃ wd, wd = wr.drewN nq := ⟨_, rfl⟩
            have hbd : Below wr.heap.size wr wd := by rw [hwd]; exact bel_drewN (Below.refl _ _) _
            rw [← hwd]
            have HND := Lib.hid (HNW.out.below hbd)
            have HCD := Lib.hid (HCW.out.trans (hbd.mono HCW.out.size))
            clear hwd hbd HNW HCW hmf hmt
            obtain ⟨⟨b0, q, ha, hc⟩, heach⟩ := HND.out
            cases ha (by intro e; rw [e] at hl0; cases hl0)
            obtain ⟨iN, hiN, hzN0, hzN1, hzN2⟩ := info_parts infoNode
            have hbe : Below wd.heap.size wd (wd.alloc (.cells #[] 35)) := (Below.refl _ _).alloc (Nat.le_refl _) _
            have hnews := nodes_news (W := wd.alloc (.cells #[] 35)) (b := b0) (q := q) (l := l) (fun i h => by
              obtain ⟨h1, h2, h3⟩ := hc i h
              exact ⟨Nat.lt_of_lt_of_le h1 hbe.size, stays hbe h2, stays hbe h3⟩)
            have hbase : wd.heap.size ≤ (wd.alloc (.cells #[] 35)).heap.size := by simp
            have HCC := Lib.hid hc
            have HEA := Lib.hid heach
            have HBE := Lib.hid hbe
            clear hc heach hbe
            go_wp2_with (at_builtin; go_loud (refine wpList_append_lies _ rfl _ _ 22 rfl wd.heap.size 35 iN (.agg #[.int .u64 0, .slice none 0 0]) 2 32 Try.underlying22 hiN hzN0 hzN1 hzN2 rfl (by decide) _ 0 [] rfl (World.ownsRow_lit wd #[] 0 (Nat.le_refl _) (Nat.zero_le _) rfl) ⟨b0, q, none⟩ l.length c (flatN l) rfl (flatN_len l) hnews (oneN l) hl0 (by unfold maxLen; omega) (by omega) hbase _ rfl ?_))
            intro g2 cap w4 hown hg _ hg4
            try simp only [Nat.zero_add, List.nil_append] at hown
            try simp only [Nat.zero_add]
            obtain ⟨hcp, hgB, _, _⟩ := CopyN.of hown
            have hb4 : Below wd.heap.size wd w4 := HBE.out.grown hg hbase (fun k e => by cases e; exact Nat.le_refl _)
            have HCP := Lib.hid hcp
            have HB4 := Lib.hid hb4
            clear hown hg hcp hb4 hnews hbase HBE
            go_wp2_with fail
            obtain ⟨v, hv⟩ : ∃ v, l[f] = v := ⟨_, rfl⟩
            obtain ⟨d, hdd⟩ : ∃ d, l[t].id = d := ⟨_, rfl⟩
            have HVF := Lib.hid ((hv ▸ HEA.out l[f] (List.getElem_mem hfl) : NodeF wd v).below (HB4.out.drew))
            have hdu : U64 d := hdd ▸ (HEA.out l[t] (List.getElem_mem htl)).id
            have hs1 : ∀ W, Below w4.drew.heap.size w4.drew W → W.cell? ⟨b0, q + f * 2 + 1, none⟩ = some (.slice v.da v.deps.length v.dc) := fun W hW => by
              obtain ⟨_, _, h⟩ := HCC.out f hfl
              rw [hv] at h
              exact stays hW (stays HB4.out.drew h)
            have hs2 : ∀ W, Below w4.drew.heap.size w4.drew W → W.cell? ⟨b0, q + t * 2, none⟩ = some (.int .u64 d) := fun W hW => by
              obtain ⟨_, h, _⟩ := HCC.out t htl
              rw [hdd] at h
              exact stays hW (stays HB4.out.drew h)
            have HNIL := Lib.hid (hnil v (hv ▸ List.getElem_mem hfl))
            have hvd : v.deps.length ≤ 12 := HDL2.out v (hv ▸ List.getElem_mem hfl)
            have HS1 := Lib.hid hs1
            have HS2 := Lib.hid hs2
            have hbg : b0 ≠ g2 := by
              have := (HCC.out f hfl).1
              omega
            obtain ⟨m2, hm2⟩ : ∃ m2, mayOf (more (rowOf l) f d) = m2 := ⟨_, rfl⟩
            have h64 : l.length ≤ 64 := by
              have := HMAY.out.len
              rwa [rowOf_len] at this
            have hiff : m2 ≠ 3 → m2 ≠ 130 → (m2 = 0 ↔ f ≠ t ∧ ¬ Path (rowOf l) d v.id) := fun h3 h130 => by
              have hf' : f < (rowOf l).length := by rw [rowOf_len]; exact hfl
              have ht' : t < (rowOf l).length := by rw [rowOf_len]; exact htl
              have e1 : (rowOf l)[t].1 = d := by rw [rowOf_at htl]; exact hdd
              have e2 : (rowOf l)[f].1 = v.id := by rw [rowOf_at hfl, hv]
              obtain ⟨s1, s2⟩ := may_seen (L := more (rowOf l) f d) (by rw [hm2]; exact h3) (by rw [hm2]; exact h130)
              have := more_may HMAY.out hf' ht' (by rw [e1]; exact s1) (by rw [e1]; exact s2)
              rw [e1, e2, hm2] at this
              exact this
            have hdl5 : ∀ (ma : Option Addr) (mc : Nat), ∀ x ∈ l.set f ⟨v.id, ma, mc, v.deps ++ [d]⟩, x.deps.length ≤ 100000 := fun ma mc x hx => by
              rcases List.mem_or_eq_of_mem_set hx with hx | rfl
              · exact HD2.out x hx
              · simp; omega
            have HM2 := Lib.hid hm2
            have HIFF := Lib.hid hiff
            have HDL5 := Lib.hid hdl5
            have HVV := Lib.hid hv
            have HDD := Lib.hid hdd
            clear hm2 hiff hdl5
            clear hs1 hs2 hv hdd
            refine wp_region_held_drew (S := fun W => W.cell? ⟨b0, q + f * 2 + 1, none⟩ = some (.slice v.da v.deps.length v.dc) ∧ W.cell? ⟨b0, q + t * 2, none⟩ = some (.int .u64 d)) (by kernel_rfl) ⟨HS1.out _ (Below.refl _ _), HS2.out _ (Below.refl _ _)⟩ (fun hHeld => ?_)
            have HCPD : Hid (CopyN g2 l w4.drew) := Lib.hid (HCP.out.same rfl)
            have HB5 := Lib.hid HB4.out.drew
            obtain ⟨u0, hu0⟩ : ∃ u, u = w4.drew := ⟨_, rfl⟩
            rw [← hu0] at HS1 HS2 HVF HCPD HB5 hHeld ⊢
            have HCP := HCPD
            have HQ := Lib.hid (A29.start u0)
            clear hu0 HCPD HB4
            refine wpAnyH_take (i := 0) (oi := ?_) (v := ?_) ?_ (by kernel_rfl) (by kernel_rfl) (by kernel_rfl) ?_ (Or.inl ⟨?_, ?_⟩) (by assumption) ?_
            rotate_left 2
            focus (simp only [List.getElem?_toArray, List.getElem?_cons_zero]; rfl)
            focus exact fun _ _ _ h => h
            focus rfl
            focus (intro W hS; (try dsimp only at hS); have q1 := hS.1; have q2 := hS.2; go_simp; (try with_reducible rfl))
            try simp only [Act.put]
            try simp only [List.setIfInBounds_toArray]
            try simp only [List.set_cons_succ]
            try simp only [List.set_cons_zero]
            refine wpAnyH_take (i := 1) (oi := ?_) (v := ?_) ?_ (by kernel_rfl) (by kernel_rfl) (by kernel_rfl) ?_ (Or.inl ⟨?_, ?_⟩) (by assumption) ?_
            rotate_left 2
            focus (simp only [List.getElem?_toArray, List.getElem?_cons_succ, List.getElem?_cons_zero]; rfl)
            focus exact fun _ _ _ h => h
            focus rfl
            focus (intro W hS; (try dsimp only at hS); have q1 := hS.1; have q2 := hS.2; go_simp; (try with_reducible rfl))
            try simp only [Act.put]
            try simp only [List.setIfInBounds_toArray]
            try simp only [List.set_cons_succ]
            try simp only [List.set_cons_zero]
            refine wpAnyH_take (i := 3) (oi := ?_) (v := ?_) ?_ (by kernel_rfl) (by kernel_rfl) (by kernel_rfl) ?_ (Or.inl ⟨?_, ?_⟩) (by assumption) ?_
            rotate_left 2
            focus (simp only [List.getElem?_toArray, List.getElem?_cons_succ, List.getElem?_cons_zero]; rfl)
            focus exact fun _ _ _ h => h
            focus rfl
            focus (intro W hS; (try dsimp only at hS); have q1 := hS.1; have q2 := hS.2; go_simp; (try with_reducible rfl))
            try simp only [Act.put]
            try simp only [List.setIfInBounds_toArray]
            try simp only [List.set_cons_succ]
            try simp only [List.set_cons_zero]
            refine wpAnyH_take (i := 4) (oi := ?_) (v := ?_) ?_ (by kernel_rfl) (by kernel_rfl) (by kernel_rfl) ?_ (Or.inl ⟨?_, ?_⟩) (by assumption) ?_
            rotate_left 2
            focus (simp only [List.getElem?_toArray, List.getElem?_cons_succ, List.getElem?_cons_zero]; rfl)
            focus exact fun _ _ _ h => h
            focus rfl
            focus (intro W hS; (try dsimp only at hS); have q1 := hS.1; have q2 := hS.2; go_simp; (try with_reducible rfl))
            try simp only [Act.put]
            try simp only [List.setIfInBounds_toArray]
            try simp only [List.set_cons_succ]
            try simp only [List.set_cons_zero]
            refine wpAnyH_take (i := 5) (oi := ?_) (v := ?_) ?_ (by kernel_rfl) (by kernel_rfl) (by kernel_rfl) ?_ (Or.inl ⟨?_, ?_⟩) (by assumption) ?_
            rotate_left 2
            focus (simp only [List.getElem?_toArray, List.getElem?_cons_succ, List.getElem?_cons_zero]; rfl)
            focus exact fun _ _ _ h => h
            focus rfl
            focus (intro W hS; (try dsimp only at hS); have q1 := hS.1; have q2 := hS.2; go_simp; (try with_reducible rfl))
            try simp only [Act.put]
            try simp only [List.setIfInBounds_toArray]
            try simp only [List.set_cons_succ]
            try simp only [List.set_cons_zero]
            refine wpAnyH_take (i := 6) (oi := ?_) (v := ?_) ?_ (by kernel_rfl) (by kernel_rfl) (by kernel_rfl) ?_ (Or.inl ⟨?_, ?_⟩) (by assumption) ?_
            rotate_left 2
            focus (simp only [List.getElem?_toArray, List.getElem?_cons_succ, List.getElem?_cons_zero]; rfl)
            focus exact fun _ _ _ h => h
            focus rfl
            focus (intro W hS; (try dsimp only at hS); have q1 := hS.1; have q2 := hS.2; go_simp; (try with_reducible rfl))
            try simp only [Act.put]
            try simp only [List.setIfInBounds_toArray]
            try simp only [List.set_cons_succ]
            try simp only [List.set_cons_zero]
            refine wpAnyH_take (i := 7) (oi := ?_) (v := ?_) ?_ (by kernel_rfl) (by kernel_rfl) (by kernel_rfl) ?_ (Or.inl ⟨?_, ?_⟩) (by assumption) ?_
            rotate_left 2
            focus (simp only [List.getElem?_toArray, List.getElem?_cons_succ, List.getElem?_cons_zero]; rfl)
            focus exact fun _ _ _ h => h
            focus rfl
            focus (intro W hS; (try dsimp only at hS); have q1 := hS.1; have q2 := hS.2; go_simp; (try with_reducible rfl))
            try simp only [Act.put]
            try simp only [List.setIfInBounds_toArray]
            try simp only [List.set_cons_succ]
            try simp only [List.set_cons_zero]
            refine wpAnyH_take (i := 9) (oi := ?_) (v := ?_) ?_ (by kernel_rfl) (by kernel_rfl) (by kernel_rfl) ?_ (Or.inl ⟨?_, ?_⟩) (by assumption) ?_
            rotate_left 2
            focus (simp only [List.getElem?_toArray, List.getElem?_cons_succ, List.getElem?_cons_zero]; rfl)
            focus exact fun _ _ _ h => h
            focus rfl
            focus (intro W hS; (try dsimp only at hS); have q1 := hS.1; have q2 := hS.2; go_simp; (try with_reducible rfl))
            try simp only [Act.put]
            try simp only [List.setIfInBounds_toArray]
            try simp only [List.set_cons_succ]
            try simp only [List.set_cons_zero]
            refine wpAnyH_take (i := 10) (oi := ?_) (v := ?_) ?_ (by kernel_rfl) (by kernel_rfl) (by kernel_rfl) ?_ (Or.inl ⟨?_, ?_⟩) (by assumption) ?_
            rotate_left 2
            focus (simp only [List.getElem?_toArray, List.getElem?_cons_succ, List.getElem?_cons_zero]; rfl)
            focus exact fun _ _ _ h => h
            focus rfl
            focus (intro W hS; (try dsimp only at hS); have q1 := hS.1; have q2 := hS.2; go_simp; (try with_reducible rfl))
            try simp only [Act.put]
            try simp only [List.setIfInBounds_toArray]
            try simp only [List.set_cons_succ]
            try simp only [List.set_cons_zero]
            refine wpAnyH_take (i := 11) (oi := ?_) (v := ?_) ?_ (by kernel_rfl) (by kernel_rfl) (by kernel_rfl) ?_ (Or.inl ⟨?_, ?_⟩) (by assumption) ?_
            rotate_left 2
            focus (simp only [List.getElem?_toArray, List.getElem?_cons_succ, List.getElem?_cons_zero]; rfl)
            focus exact fun _ _ _ h => h
            focus rfl
            focus (intro W hS; (try dsimp only at hS); have q1 := hS.1; have q2 := hS.2; go_simp; (try with_reducible rfl))
            try simp only [Act.put]
            try simp only [List.setIfInBounds_toArray]
            try simp only [List.set_cons_succ]
            try simp only [List.set_cons_zero]
            refine wpAnyH_take (i := 12) (oi := ?_) (v := ?_) ?_ (by kernel_rfl) (by kernel_rfl) (by kernel_rfl) ?_ (Or.inl ⟨?_, ?_⟩) (by assumption) ?_
            rotate_left 2
            focus (simp only [List.getElem?_toArray, List.getElem?_cons_succ, List.getElem?_cons_zero]; rfl)
            focus exact fun _ _ _ h => h
            focus rfl
            focus (intro W hS; (try dsimp only at hS); have q1 := hS.1; have q2 := hS.2; go_simp; (try with_reducible rfl))
            try simp only [Act.put]
            try simp only [List.setIfInBounds_toArray]
            try simp only [List.set_cons_succ]
            try simp only [List.set_cons_zero]
            refine wpAnyH_take (i := 13) (oi := ?_) (v := ?_) ?_ (by kernel_rfl) (by kernel_rfl) (by kernel_rfl) ?_ (Or.inl ⟨?_, ?_⟩) (by assumption) ?_
            rotate_left 2
            focus (simp only [List.getElem?_toArray, List.getElem?_cons_succ, List.getElem?_cons_zero]; rfl)
            focus exact fun _ _ _ h => h
            focus rfl
            focus (intro W hS; (try dsimp only at hS); have q1 := hS.1; have q2 := hS.2; go_simp; (try with_reducible rfl))
            try simp only [Act.put]
            try simp only [List.setIfInBounds_toArray]
            try simp only [List.set_cons_succ]
            try simp only [List.set_cons_zero]
            refine wpAnyH_ready (rs := [2, 14]) (by kernel_rfl) (by simp) ?_
            refine AllReadyH.cons (o := ?_) ?_ (fun K hK => ?_) ?_
            rotate_left
            focus (simp only [List.getElem?_toArray, List.getElem?_cons_succ, List.getElem?_cons_zero]; rfl)
            · rw [if_pos (by rfl)]
              go_simp
              have hq := HQ.out.empty
              obtain ⟨ve, hve⟩ : ∃ v, v = Value.slice (some ⟨u0.heap.size, 0, none⟩) 0 0 := ⟨_, rfl⟩
              obtain ⟨u1, hu⟩ : ∃ u, u = u0.alloc (.cells #[] 23) := ⟨_, rfl⟩
              rw [← hu, ← hve] at hq
              rw [← hu, ← hve]
              clear hu hve HQ
              have HQ := Lib.hid hq
              clear hq
              refine hK.out _ _ ⟨HS1.out _ HQ.out.bel, HS2.out _ HQ.out.bel⟩ (fun hHeld => ?_)
              clear hK K
              try simp only [Act.put]
              try simp only [List.setIfInBounds_toArray]
              try simp only [List.set_cons_succ]
              try simp only [List.set_cons_zero]
              refine wpAnyH_ready (rs := [8, 14]) (by kernel_rfl) (by simp) ?_
              refine AllReadyH.cons (o := ?_) ?_ (fun K hK => ?_) ?_
              rotate_left
              focus (simp only [List.getElem?_toArray, List.getElem?_cons_succ, List.getElem?_cons_zero]; rfl)
              · rw [if_pos (by rfl)]
                obtain ⟨vd, u2, hrun, hq⟩ := HQ.out.app (c := v.dc) (by simp) (HVF.out.deps.below HQ.out.bel) (by omega) HNIL.out
                rw [List.nil_append] at hq
                refine wp_append_run13 rfl rfl rfl hrun ?_
                clear hrun HQ
                have HQ := Lib.hid hq
                clear hq
                refine hK.out _ _ ⟨HS1.out _ HQ.out.bel, HS2.out _ HQ.out.bel⟩ (fun hHeld => ?_)
                clear hK K
                try simp only [Act.put]
                try simp only [List.setIfInBounds_toArray]
                try simp only [List.set_cons_succ]
                try simp only [List.set_cons_zero]
                refine wpAnyH_ready (rs := [14]) (by kernel_rfl) (by simp) ?_
                refine AllReadyH.cons (o := ?_) ?_ (fun K hK => ?_) AllReadyH.nil
                rotate_left
                focus (simp only [List.getElem?_toArray, List.getElem?_cons_succ, List.getElem?_cons_zero]; rfl)
                rw [if_pos (by rfl)]
                go_simp
                have hq := HQ.out.lit d
                obtain ⟨s, hs⟩ : ∃ s, s = u2.heap.size := ⟨_, rfl⟩
                obtain ⟨u3, hu⟩ : ∃ u, u = u2.alloc (.cells #[.int .u64 d] 23) := ⟨_, rfl⟩
                rw [← hu, ← hs] at hq
                rw [← hu, ← hs]
                clear hu hs HQ
                have HQ := Lib.hid hq
                clear hq
                refine hK.out _ _ ⟨HS1.out _ HQ.out.bel, HS2.out _ HQ.out.bel⟩ (fun hHeld => ?_)
                clear hK K
                try simp only [Act.put]
                try simp only [List.setIfInBounds_toArray]
                try simp only [List.set_cons_succ]
                try simp only [List.set_cons_zero]
                refine wpAnyH_ready (rs := [15]) (by kernel_rfl) (by simp) ?_
                refine AllReadyH.cons (o := ?_) ?_ (fun K hK => ?_) AllReadyH.nil
                rotate_left
                focus (simp only [List.getElem?_toArray, List.getElem?_cons_succ, List.getElem?_cons_zero]; rfl)
                rw [if_pos (by rfl)]
                obtain ⟨vm, u4, hrun, hq⟩ := HQ.out.app1 (by first | omega | (simp; omega)) (s := s) (d := d) (by simp) hdu
                refine wp_append_run13 rfl rfl rfl hrun ?_
                clear hrun HQ
                have HQ := Lib.hid hq
                clear hq
                refine hK.out _ _ ⟨HS1.out _ HQ.out.bel, HS2.out _ HQ.out.bel⟩ (fun hHeld => ?_)
                clear hK K
                try simp only [Act.put]
                try simp only [List.setIfInBounds_toArray]
                try simp only [List.set_cons_succ]
                try simp only [List.set_cons_zero]
                refine wpAnyH_take (i := 16) (oi := ?_) (v := ?_) ?_ (by kernel_rfl) (by kernel_rfl) (by kernel_rfl) ?_ (Or.inl ⟨?_, ?_⟩) (by assumption) ?_
                rotate_left 2
                focus (simp only [List.getElem?_toArray, List.getElem?_cons_succ, List.getElem?_cons_zero]; rfl)
                focus exact fun _ _ _ h => h
                focus rfl
                focus (intro W hS; (try dsimp only at hS); have q1 := hS.1; have q2 := hS.2; go_simp; (try with_reducible rfl))
                try simp only [Act.put]
                try simp only [List.setIfInBounds_toArray]
                try simp only [List.set_cons_succ]
                try simp only [List.set_cons_zero]
                refine wpAnyH_take (i := 17) (oi := ?_) (v := ?_) ?_ (by kernel_rfl) (by kernel_rfl) (by kernel_rfl) ?_ (Or.inl ⟨?_, ?_⟩) (by assumption) ?_
                rotate_left 2
                focus (simp only [List.getElem?_toArray, List.getElem?_cons_succ, List.getElem?_cons_zero]; rfl)
                focus exact fun _ _ _ h => h
                focus rfl
                focus (intro W hS; (try dsimp only at hS); have q1 := hS.1; have q2 := hS.2; go_simp; (try with_reducible rfl))
                try simp only [Act.put]
                try simp only [List.setIfInBounds_toArray]
                try simp only [List.set_cons_succ]
                try simp only [List.set_cons_zero]
                refine wpAnyH_ready (rs := [18]) (by kernel_rfl) (by simp) ?_
                refine AllReadyH.cons (o := ?_) ?_ (fun K hK => ?_) AllReadyH.nil
                rotate_left
                focus (simp only [List.getElem?_toArray, List.getElem?_cons_succ, List.getElem?_cons_zero]; rfl)
                rw [if_pos (by rfl)]
                obtain ⟨ma, mc, rfl⟩ := HQ.out.row.shape
                have hcp := HCP.out.same (HQ.out.bel.block _ HCP.out.lt)
                obtain ⟨x1, x2⟩ := hcp.at_ (j := f * 2 + 1) (by omega)
                rw [(flatN_at hfl).2] at x1
                go_simp
                obtain ⟨hn5, hb5⟩ := more_nodes HCP.out HQ.out HB5.out HEA.out hfl HVV.out hdu hgB
                refine hK.out _ _ ⟨(World.cell?_of_block (w := u4) (a := ⟨b0, q + f * 2 + 1, none⟩) (Below.heap_setCell _ _ _ _ hbg)).trans (HS1.out _ HQ.out.bel), (World.cell?_of_block (w := u4) (a := ⟨b0, q + t * 2, none⟩) (Below.heap_setCell _ _ _ _ hbg)).trans (HS2.out _ HQ.out.bel)⟩ (fun hHeld => ?_)
                clear hK K
                try simp only [Act.put]
                try simp only [List.setIfInBounds_toArray]
                try simp only [List.set_cons_succ]
                try simp only [List.set_cons_zero]
                refine wpAnyH_done (by kernel_rfl) ?_ _
                rw [show (v.deps ++ [d]).length = v.deps.length + 1 by simp] at hn5 hb5
                obtain ⟨w5, hw5⟩ : ∃ w5, w5 = u4.setCell ⟨g2, f * 2 + 1, none⟩ (.slice ma (v.deps.length + 1) mc) := ⟨_, rfl⟩
                rw [← hw5] at hn5 hb5
                rw [← hw5]
                have hmo := may_any (c := cap) hn5 (by simp; omega) (HDL5.out ma mc)
                rw [List.length_set, rowOf_set l hfl ⟨v.id, ma, mc, v.deps ++ [d]⟩ d (by rw [HVV.out]) (by rw [HVV.out])] at hmo
                rw [HM2.out] at hmo
                have HMO := Lib.hid hmo
                have HB6 := Lib.hid hb5
                clear hn5 hb5 hw5 hmo hHeld HQ HS1 HS2 HVF HCP x1 x2 hcp
                go_wp2_with fail
                refine HMO.out.mono ?_
                rintro e w6 ⟨rfl, hb6⟩
                have HB7 := Lib.hid (HB6.out.trans (hb6.mono HB6.out.size))
                clear HMO HB6 hb6
                have HC7 := Lib.hid (HCD.out.trans (HB7.out.mono HCD.out.size))
                have HN7 := Lib.hid (HND.out.below HB7.out)
                have ct : w6.cell? ⟨b0, q + t * 2, none⟩ = some (.int .u64 d) := by
                  obtain ⟨_, h, _⟩ := HCC.out t htl
                  rw [HDD.out] at h
                  exact stays HB7.out h
                have cf : w6.cell? ⟨b0, q + f * 2, none⟩ = some (.int .u64 v.id) := by
                  obtain ⟨_, h, _⟩ := HCC.out f hfl
                  rw [HVV.out] at h
                  exact stays HB7.out h
                by_cases hm3 : m2 = 3
                · subst hm3
                  go_wp2_with fail
                  go_ret
                  exact ⟨by first | rfl | trivial, HC7.out⟩
                by_cases hm130 : m2 = 130
                · subst hm130
                  go_wp2_with fail
                  go_ret
                  exact ⟨by first | rfl | trivial, HC7.out⟩
                have hiff := HIFF.out hm3 hm130
                have hm3b : (m2 == 3) = false := by simpa using hm3
                have hm130b : (m2 == 130) = false := by simpa using hm130
                by_cases hft : f = t
                · subst hft
                  have hm0 : ¬ m2 = 0 := fun h => (hiff.1 h).1 rfl
                  have hm0b : (m2 == 0) = false := by simpa using hm0
                  clear hiff
                  go_wp2_with fail
                  clear ct cf
                  refine wp_region_held_drew (S := fun W => Below w6.heap.size w6 W ∧ True) (by kernel_rfl) ⟨(Below.refl _ _).drew, trivial⟩ (fun hHeld => ?_)
                  refine wpAnyH_take (i := 0) (oi := ?_) (v := ?_) ?_ (by kernel_rfl) (by kernel_rfl) (by kernel_rfl) ?_ (Or.inl ⟨?_, ?_⟩) (by assumption) ?_
                  rotate_left 2
                  focus (simp only [List.getElem?_toArray, List.getElem?_cons_zero]; rfl)
                  focus exact fun _ _ _ h => h
                  focus rfl
                  focus (intro W hS; (try dsimp only at hS); have q1 := hS.1; have q2 := hS.2; go_simp; (try with_reducible rfl))
                  try simp only [Act.put]
                  try simp only [List.setIfInBounds_toArray]
                  try simp only [List.set_cons_succ]
                  try simp only [List.set_cons_zero]
                  refine wpAnyH_take (i := 1) (oi := ?_) (v := ?_) ?_ (by kernel_rfl) (by kernel_rfl) (by kernel_rfl) ?_ (Or.inl ⟨?_, ?_⟩) (by assumption) ?_
                  rotate_left 2
                  focus (simp only [List.getElem?_toArray, List.getElem?_cons_succ, List.getElem?_cons_zero]; rfl)
                  focus exact fun _ _ _ h => h
                  focus rfl
                  focus (intro W hS; (try dsimp only at hS); have q1 := hS.1; have q2 := hS.2; go_simp; (try with_reducible rfl))
                  try simp only [Act.put]
                  try simp only [List.setIfInBounds_toArray]
                  try simp only [List.set_cons_succ]
                  try simp only [List.set_cons_zero]
                  refine wpAnyH_take (i := 2) (oi := ?_) (v := ?_) ?_ (by kernel_rfl) (by kernel_rfl) (by kernel_rfl) ?_ (Or.inl ⟨?_, ?_⟩) (by assumption) ?_
                  rotate_left 2
                  focus (simp only [List.getElem?_toArray, List.getElem?_cons_succ, List.getElem?_cons_zero]; rfl)
                  focus exact fun _ _ _ h => h
                  focus rfl
                  focus (intro W hS; (try dsimp only at hS); have q1 := hS.1; have q2 := hS.2; go_simp; (try with_reducible rfl))
                  try simp only [Act.put]
                  try simp only [List.setIfInBounds_toArray]
                  try simp only [List.set_cons_succ]
                  try simp only [List.set_cons_zero]
                  refine wpAnyH_take (i := 3) (oi := ?_) (v := ?_) ?_ (by kernel_rfl) (by kernel_rfl) (by kernel_rfl) ?_ (Or.inl ⟨?_, ?_⟩) (by assumption) ?_
                  rotate_left 2
                  focus (simp only [List.getElem?_toArray, List.getElem?_cons_succ, List.getElem?_cons_zero]; rfl)
                  focus exact fun _ _ _ h => h
                  focus rfl
                  focus (intro W hS; (try dsimp only at hS); have q1 := hS.1; have q2 := hS.2; go_simp; (try with_reducible rfl))
                  try simp only [Act.put]
                  try simp only [List.setIfInBounds_toArray]
                  try simp only [List.set_cons_succ]
                  try simp only [List.set_cons_zero]
                  refine wpAnyH_take (i := 4) (oi := ?_) (v := ?_) ?_ (by kernel_rfl) (by kernel_rfl) (by kernel_rfl) ?_ (Or.inl ⟨?_, ?_⟩) (by assumption) ?_
                  rotate_left 2
                  focus (simp only [List.getElem?_toArray, List.getElem?_cons_succ, List.getElem?_cons_zero]; rfl)
                  focus exact fun _ _ _ h => h
                  focus rfl
                  focus (intro W hS; (try dsimp only at hS); have q1 := hS.1; have q2 := hS.2; go_simp; (try with_reducible rfl))
                  try simp only [Act.put]
                  try simp only [List.setIfInBounds_toArray]
                  try simp only [List.set_cons_succ]
                  try simp only [List.set_cons_zero]
                  refine wpAnyH_take (i := 5) (oi := ?_) (v := ?_) ?_ (by kernel_rfl) (by kernel_rfl) (by kernel_rfl) ?_ (Or.inl ⟨?_, ?_⟩) (by assumption) ?_
                  rotate_left 2
                  focus (simp only [List.getElem?_toArray, List.getElem?_cons_succ, List.getElem?_cons_zero]; rfl)
                  focus exact fun _ _ _ h => h
                  focus rfl
                  focus (intro W hS; (try dsimp only at hS); have q1 := hS.1; have q2 := hS.2; go_simp; (try with_reducible rfl))
                  try simp only [Act.put]
                  try simp only [List.setIfInBounds_toArray]
                  try simp only [List.set_cons_succ]
                  try simp only [List.set_cons_zero]
                  refine wpAnyH_take (i := 6) (oi := ?_) (v := ?_) ?_ (by kernel_rfl) (by kernel_rfl) (by kernel_rfl) ?_ (Or.inr ⟨?_, ?_⟩) (by assumption) ?_
                  rotate_left 2
                  focus (simp only [List.getElem?_toArray, List.getElem?_cons_succ, List.getElem?_cons_zero]; rfl)
                  focus exact fun _ _ _ h => h
                  focus rfl
                  focus rfl
                  try simp only [Act.put]
                  try simp only [List.setIfInBounds_toArray]
                  try simp only [List.set_cons_succ]
                  try simp only [List.set_cons_zero]
                  refine wpAnyH_take (i := 7) (oi := ?_) (v := ?_) ?_ (by kernel_rfl) (by kernel_rfl) (by kernel_rfl) ?_ (Or.inr ⟨?_, ?_⟩) (by assumption) ?_
                  rotate_left 2
                  focus (simp only [List.getElem?_toArray, List.getElem?_cons_succ, List.getElem?_cons_zero]; rfl)
                  focus exact fun _ _ _ h => h
                  focus rfl
                  focus rfl
                  try simp only [Act.put]
                  try simp only [List.setIfInBounds_toArray]
                  try simp only [List.set_cons_succ]
                  try simp only [List.set_cons_zero]
                  refine wpAnyH_take (i := 8) (oi := ?_) (v := ?_) ?_ (by kernel_rfl) (by kernel_rfl) (by kernel_rfl) ?_ (Or.inr ⟨?_, ?_⟩) (by assumption) ?_
                  rotate_left 2
                  focus (simp only [List.getElem?_toArray, List.getElem?_cons_succ, List.getElem?_cons_zero]; rfl)
                  focus exact fun _ _ _ h => h
                  focus rfl
                  focus rfl
                  try simp only [Act.put]
                  try simp only [List.setIfInBounds_toArray]
                  try simp only [List.set_cons_succ]
                  try simp only [List.set_cons_zero]
                  refine wpAnyH_take (i := 9) (oi := ?_) (v := ?_) ?_ (by kernel_rfl) (by kernel_rfl) (by kernel_rfl) ?_ (Or.inr ⟨?_, ?_⟩) (by assumption) ?_
                  rotate_left 2
                  focus (simp only [List.getElem?_toArray, List.getElem?_cons_succ, List.getElem?_cons_zero]; rfl)
                  focus exact fun _ _ _ h => h
                  focus rfl
                  focus rfl
                  try simp only [Act.put]
                  try simp only [List.setIfInBounds_toArray]
                  try simp only [List.set_cons_succ]
                  try simp only [List.set_cons_zero]
                  refine wpAnyH_take (i := 10) (oi := ?_) (v := ?_) ?_ (by kernel_rfl) (by kernel_rfl) (by kernel_rfl) ?_ (Or.inr ⟨?_, ?_⟩) (by assumption) ?_
                  rotate_left 2
                  focus (simp only [List.getElem?_toArray, List.getElem?_cons_succ, List.getElem?_cons_zero]; rfl)
                  focus exact fun _ _ _ h => h
                  focus rfl
                  focus rfl
                  try simp only [Act.put]
                  try simp only [List.setIfInBounds_toArray]
                  try simp only [List.set_cons_succ]
                  try simp only [List.set_cons_zero]
                  refine wpAnyH_take (i := 11) (oi := ?_) (v := ?_) ?_ (by kernel_rfl) (by kernel_rfl) (by kernel_rfl) ?_ (Or.inr ⟨?_, ?_⟩) (by assumption) ?_
                  rotate_left 2
                  focus (simp only [List.getElem?_toArray, List.getElem?_cons_succ, List.getElem?_cons_zero]; rfl)
                  focus exact fun _ _ _ h => h
                  focus rfl
                  focus rfl
                  try simp only [Act.put]
                  try simp only [List.setIfInBounds_toArray]
                  try simp only [List.set_cons_succ]
                  try simp only [List.set_cons_zero]
                  refine wpAnyH_take (i := 12) (oi := ?_) (v := ?_) ?_ (by kernel_rfl) (by kernel_rfl) (by kernel_rfl) ?_ (Or.inr ⟨?_, ?_⟩) (by assumption) ?_
                  rotate_left 2
                  focus (simp only [List.getElem?_toArray, List.getElem?_cons_succ, List.getElem?_cons_zero]; rfl)
                  focus exact fun _ _ _ h => h
                  focus rfl
                  focus rfl
                  try simp only [Act.put]
                  try simp only [List.setIfInBounds_toArray]
                  try simp only [List.set_cons_succ]
                  try simp only [List.set_cons_zero]
                  refine wpAnyH_take (i := 13) (oi := ?_) (v := ?_) ?_ (by kernel_rfl) (by kernel_rfl) (by kernel_rfl) ?_ (Or.inr ⟨?_, ?_⟩) (by assumption) ?_
                  rotate_left 2
                  focus (simp only [List.getElem?_toArray, List.getElem?_cons_succ, List.getElem?_cons_zero]; rfl)
                  focus exact fun _ _ _ h => h
                  focus rfl
                  focus rfl
                  try simp only [Act.put]
                  try simp only [List.setIfInBounds_toArray]
                  try simp only [List.set_cons_succ]
                  try simp only [List.set_cons_zero]
                  refine wpAnyH_take (i := 14) (oi := ?_) (v := ?_) ?_ (by kernel_rfl) (by kernel_rfl) (by kernel_rfl) ?_ (Or.inr ⟨?_, ?_⟩) (by assumption) ?_
                  rotate_left 2
                  focus (simp only [List.getElem?_toArray, List.getElem?_cons_succ, List.getElem?_cons_zero]; rfl)
                  focus exact fun _ _ _ h => h
                  focus rfl
                  focus rfl
                  try simp only [Act.put]
                  try simp only [List.setIfInBounds_toArray]
                  try simp only [List.set_cons_succ]
                  try simp only [List.set_cons_zero]
                  refine wpAnyH_take (i := 15) (oi := ?_) (v := ?_) ?_ (by kernel_rfl) (by kernel_rfl) (by kernel_rfl) ?_ (Or.inr ⟨?_, ?_⟩) (by assumption) ?_
                  rotate_left 2
                  focus (simp only [List.getElem?_toArray, List.getElem?_cons_succ, List.getElem?_cons_zero]; rfl)
                  focus exact fun _ _ _ h => h
                  focus rfl
                  focus rfl
                  try simp only [Act.put]
                  try simp only [List.setIfInBounds_toArray]
                  try simp only [List.set_cons_succ]
                  try simp only [List.set_cons_zero]
                  refine wpAnyH_take (i := 16) (oi := ?_) (v := ?_) ?_ (by kernel_rfl) (by kernel_rfl) (by kernel_rfl) ?_ (Or.inr ⟨?_, ?_⟩) (by assumption) ?_
                  rotate_left 2
                  focus (simp only [List.getElem?_toArray, List.getElem?_cons_succ, List.getElem?_cons_zero]; rfl)
                  focus exact fun _ _ _ h => h
                  focus rfl
                  focus rfl
                  try simp only [Act.put]
                  try simp only [List.setIfInBounds_toArray]
                  try simp only [List.set_cons_succ]
                  try simp only [List.set_cons_zero]
                  refine wpAnyH_take (i := 17) (oi := ?_) (v := ?_) ?_ (by kernel_rfl) (by kernel_rfl) (by kernel_rfl) ?_ (Or.inr ⟨?_, ?_⟩) (by assumption) ?_
                  rotate_left 2
                  focus (simp only [List.getElem?_toArray, List.getElem?_cons_succ, List.getElem?_cons_zero]; rfl)
                  focus exact fun _ _ _ h => h
                  focus rfl
                  focus rfl
                  try simp only [Act.put]
                  try simp only [List.setIfInBounds_toArray]
                  try simp only [List.set_cons_succ]
                  try simp only [List.set_cons_zero]
                  refine wpAnyH_take (i := 18) (oi := ?_) (v := ?_) ?_ (by kernel_rfl) (by kernel_rfl) (by kernel_rfl) ?_ (Or.inr ⟨?_, ?_⟩) (by assumption) ?_
                  rotate_left 2
                  focus (simp only [List.getElem?_toArray, List.getElem?_cons_succ, List.getElem?_cons_zero]; rfl)
                  focus exact fun _ _ _ h => h
                  focus rfl
                  focus rfl
                  try simp only [Act.put]
                  try simp only [List.setIfInBounds_toArray]
                  try simp only [List.set_cons_succ]
                  try simp only [List.set_cons_zero]
                  refine wpAnyH_take (i := 19) (oi := ?_) (v := ?_) ?_ (by kernel_rfl) (by kernel_rfl) (by kernel_rfl) ?_ (Or.inl ⟨?_, ?_⟩) (by assumption) ?_
                  rotate_left 2
                  focus (simp only [List.getElem?_toArray, List.getElem?_cons_succ, List.getElem?_cons_zero]; rfl)
                  focus exact fun _ _ _ h => h
                  focus rfl
                  focus (intro W hS; (try dsimp only at hS); have q1 := hS.1; have q2 := hS.2; go_simp; (try with_reducible rfl))
                  try simp only [Act.put]
                  try simp only [List.setIfInBounds_toArray]
                  try simp only [List.set_cons_succ]
                  try simp only [List.set_cons_zero]
                  refine wpAnyH_take (i := 20) (oi := ?_) (v := ?_) ?_ (by kernel_rfl) (by kernel_rfl) (by kernel_rfl) ?_ (Or.inl ⟨?_, ?_⟩) (by assumption) ?_
                  rotate_left 2
                  focus (simp only [List.getElem?_toArray, List.getElem?_cons_succ, List.getElem?_cons_zero]; rfl)
                  focus exact fun _ _ _ h => h
                  focus rfl
                  focus (intro W hS; (try dsimp only at hS); have q1 := hS.1; have q2 := hS.2; go_simp; (try with_reducible rfl))
                  try simp only [Act.put]
                  try simp only [List.setIfInBounds_toArray]
                  try simp only [List.set_cons_succ]
                  try simp only [List.set_cons_zero]
                  refine wpAnyH_take (i := 21) (oi := ?_) (v := ?_) ?_ (by kernel_rfl) (by kernel_rfl) (by kernel_rfl) ?_ (Or.inl ⟨?_, ?_⟩) (by assumption) ?_
                  rotate_left 2
                  focus (simp only [List.getElem?_toArray, List.getElem?_cons_succ, List.getElem?_cons_zero]; rfl)
                  focus exact fun _ _ _ h => h
                  focus rfl
                  focus (intro W hS; (try dsimp only at hS); have q1 := hS.1; have q2 := hS.2; go_simp; (try with_reducible rfl))
                  try simp only [Act.put]
                  try simp only [List.setIfInBounds_toArray]
                  try simp only [List.set_cons_succ]
                  try simp only [List.set_cons_zero]
                  refine wpAnyH_done (by kernel_rfl) ?_ _
                  go_wp2_with fail
                  go_ret
                  exact ⟨by first | rfl | trivial, HC7.out.drew⟩
                have hne1 : ((f : Int) == (t : Int)) = false := by simp; omega
                have hne2 : (f == t) = false := by simpa using hft
                have hne3 : ((f : Int) != (t : Int)) = true := by simp; omega
                by_cases hp : Path (rowOf l) d v.id
                · have hm0 : ¬ m2 = 0 := fun h => (hiff.1 h).2 hp
                  have hm0b : (m2 == 0) = false := by simpa using hm0
                  have HRE := Lib.hid (fun W (h : Below w6.heap.size w6 W) => (reach_any (c := c) (HN7.out.below h) (by omega) HD2.out d v.id).mono fun e w' ⟨b, h1, h2, h3⟩ => (show e = Ending.returned (.bool true) ∧ Below W.heap.size W w' from by
                    obtain rfl : b = true := h2.2 ⟨h64, hp⟩
                    exact ⟨h1, h3⟩))
                  clear hiff hp
                  go_wp2_with fail
                  refine wp_region_held_drew (S := fun W => W.cell? ⟨b0, q + t * 2, none⟩ = some (.int .u64 d) ∧ W.cell? ⟨b0, q + f * 2, none⟩ = some (.int .u64 v.id) ∧ Below w6.heap.size w6 W) (by kernel_rfl) ⟨ct, cf, (Below.refl _ _).drew⟩ (fun hHeld => ?_)
                  refine wpAnyH_take (i := 0) (oi := ?_) (v := ?_) ?_ (by kernel_rfl) (by kernel_rfl) (by kernel_rfl) ?_ (Or.inl ⟨?_, ?_⟩) (by assumption) ?_
                  rotate_left 2
                  focus (simp only [List.getElem?_toArray, List.getElem?_cons_zero]; rfl)
                  focus exact fun _ _ _ h => h
                  focus rfl
                  focus (intro W hS; (try dsimp only at hS); have q1 := hS.1; have q2 := hS.2.1; go_simp; (try with_reducible rfl))
                  try simp only [Act.put]
                  try simp only [List.setIfInBounds_toArray]
                  try simp only [List.set_cons_succ]
                  try simp only [List.set_cons_zero]
                  refine wpAnyH_take (i := 1) (oi := ?_) (v := ?_) ?_ (by kernel_rfl) (by kernel_rfl) (by kernel_rfl) ?_ (Or.inl ⟨?_, ?_⟩) (by assumption) ?_
                  rotate_left 2
                  focus (simp only [List.getElem?_toArray, List.getElem?_cons_succ, List.getElem?_cons_zero]; rfl)
                  focus exact fun _ _ _ h => h
                  focus rfl
                  focus (intro W hS; (try dsimp only at hS); have q1 := hS.1; have q2 := hS.2.1; go_simp; (try with_reducible rfl))
                  try simp only [Act.put]
                  try simp only [List.setIfInBounds_toArray]
                  try simp only [List.set_cons_succ]
                  try simp only [List.set_cons_zero]
                  refine wpAnyH_take (i := 2) (oi := ?_) (v := ?_) ?_ (by kernel_rfl) (by kernel_rfl) (by kernel_rfl) ?_ (Or.inl ⟨?_, ?_⟩) (by assumption) ?_
                  rotate_left 2
                  focus (simp only [List.getElem?_toArray, List.getElem?_cons_succ, List.getElem?_cons_zero]; rfl)
                  focus exact fun _ _ _ h => h
                  focus rfl
                  focus (intro W hS; (try dsimp only at hS); have q1 := hS.1; have q2 := hS.2.1; go_simp; (try with_reducible rfl))
                  try simp only [Act.put]
                  try simp only [List.setIfInBounds_toArray]
                  try simp only [List.set_cons_succ]
                  try simp only [List.set_cons_zero]
                  refine wpAnyH_take (i := 3) (oi := ?_) (v := ?_) ?_ (by kernel_rfl) (by kernel_rfl) (by kernel_rfl) ?_ (Or.inl ⟨?_, ?_⟩) (by assumption) ?_
                  rotate_left 2
                  focus (simp only [List.getElem?_toArray, List.getElem?_cons_succ, List.getElem?_cons_zero]; rfl)
                  focus exact fun _ _ _ h => h
                  focus rfl
                  focus (intro W hS; (try dsimp only at hS); have q1 := hS.1; have q2 := hS.2.1; go_simp; (try with_reducible rfl))
                  try simp only [Act.put]
                  try simp only [List.setIfInBounds_toArray]
                  try simp only [List.set_cons_succ]
                  try simp only [List.set_cons_zero]
                  refine wpAnyH_take (i := 4) (oi := ?_) (v := ?_) ?_ (by kernel_rfl) (by kernel_rfl) (by kernel_rfl) ?_ (Or.inl ⟨?_, ?_⟩) (by assumption) ?_
                  rotate_left 2
                  focus (simp only [List.getElem?_toArray, List.getElem?_cons_succ, List.getElem?_cons_zero]; rfl)
                  focus exact fun _ _ _ h => h
                  focus rfl
                  focus (intro W hS; (try dsimp only at hS); have q1 := hS.1; have q2 := hS.2.1; go_simp; (try with_reducible rfl))
                  try simp only [Act.put]
                  try simp only [List.setIfInBounds_toArray]
                  try simp only [List.set_cons_succ]
                  try simp only [List.set_cons_zero]
                  refine wpAnyH_take (i := 5) (oi := ?_) (v := ?_) ?_ (by kernel_rfl) (by kernel_rfl) (by kernel_rfl) ?_ (Or.inl ⟨?_, ?_⟩) (by assumption) ?_
                  rotate_left 2
                  focus (simp only [List.getElem?_toArray, List.getElem?_cons_succ, List.getElem?_cons_zero]; rfl)
                  focus exact fun _ _ _ h => h
                  focus rfl
                  focus (intro W hS; (try dsimp only at hS); have q1 := hS.1; have q2 := hS.2.1; go_simp; (try with_reducible rfl))
                  try simp only [Act.put]
                  try simp only [List.setIfInBounds_toArray]
                  try simp only [List.set_cons_succ]
                  try simp only [List.set_cons_zero]
                  refine wpAnyH_take (i := 6) (oi := ?_) (v := ?_) ?_ (by kernel_rfl) (by kernel_rfl) (by kernel_rfl) ?_ (Or.inl ⟨?_, ?_⟩) (by assumption) ?_
                  rotate_left 2
                  focus (simp only [List.getElem?_toArray, List.getElem?_cons_succ, List.getElem?_cons_zero]; rfl)
                  focus exact fun _ _ _ h => h
                  focus rfl
                  focus (intro W hS; (try dsimp only at hS); have q1 := hS.1; have q2 := hS.2.1; go_simp; (try with_reducible rfl))
                  try simp only [Act.put]
                  try simp only [List.setIfInBounds_toArray]
                  try simp only [List.set_cons_succ]
                  try simp only [List.set_cons_zero]
                  refine wpAnyH_take (i := 7) (oi := ?_) (v := ?_) ?_ (by kernel_rfl) (by kernel_rfl) (by kernel_rfl) ?_ (Or.inl ⟨?_, ?_⟩) (by assumption) ?_
                  rotate_left 2
                  focus (simp only [List.getElem?_toArray, List.getElem?_cons_succ, List.getElem?_cons_zero]; rfl)
                  focus exact fun _ _ _ h => h
                  focus rfl
                  focus (intro W hS; (try dsimp only at hS); have q1 := hS.1; have q2 := hS.2.1; go_simp; (try with_reducible rfl))
                  try simp only [Act.put]
                  try simp only [List.setIfInBounds_toArray]
                  try simp only [List.set_cons_succ]
                  try simp only [List.set_cons_zero]
                  refine wpAnyH_take (i := 8) (oi := ?_) (v := ?_) ?_ (by kernel_rfl) (by kernel_rfl) (by kernel_rfl) ?_ (Or.inl ⟨?_, ?_⟩) (by assumption) ?_
                  rotate_left 2
                  focus (simp only [List.getElem?_toArray, List.getElem?_cons_succ, List.getElem?_cons_zero]; rfl)
                  focus exact fun _ _ _ h => h
                  focus rfl
                  focus (intro W hS; (try dsimp only at hS); have q1 := hS.1; have q2 := hS.2.1; go_simp; (try with_reducible rfl))
                  try simp only [Act.put]
                  try simp only [List.setIfInBounds_toArray]
                  try simp only [List.set_cons_succ]
                  try simp only [List.set_cons_zero]
                  refine wpAnyH_take (i := 9) (oi := ?_) (v := ?_) ?_ (by kernel_rfl) (by kernel_rfl) (by kernel_rfl) ?_ (Or.inl ⟨?_, ?_⟩) (by assumption) ?_
                  rotate_left 2
                  focus (simp only [List.getElem?_toArray, List.getElem?_cons_succ, List.getElem?_cons_zero]; rfl)
                  focus exact fun _ _ _ h => h
                  focus rfl
                  focus (intro W hS; (try dsimp only at hS); have q1 := hS.1; have q2 := hS.2.1; go_simp; (try with_reducible rfl))
                  try simp only [Act.put]
                  try simp only [List.setIfInBounds_toArray]
                  try simp only [List.set_cons_succ]
                  try simp only [List.set_cons_zero]
                  refine wpAnyH_take (i := 10) (oi := ?_) (v := ?_) ?_ (by kernel_rfl) (by kernel_rfl) (by kernel_rfl) ?_ (Or.inl ⟨?_, ?_⟩) (by assumption) ?_
                  rotate_left 2
                  focus (simp only [List.getElem?_toArray, List.getElem?_cons_succ, List.getElem?_cons_zero]; rfl)
                  focus exact fun _ _ _ h => h
                  focus rfl
                  focus (intro W hS; (try dsimp only at hS); have q1 := hS.1; have q2 := hS.2.1; go_simp; (try with_reducible rfl))
                  try simp only [Act.put]
                  try simp only [List.setIfInBounds_toArray]
                  try simp only [List.set_cons_succ]
                  try simp only [List.set_cons_zero]
                  refine wpAnyH_take (i := 11) (oi := ?_) (v := ?_) ?_ (by kernel_rfl) (by kernel_rfl) (by kernel_rfl) ?_ (Or.inl ⟨?_, ?_⟩) (by assumption) ?_
                  rotate_left 2
                  focus (simp only [List.getElem?_toArray, List.getElem?_cons_succ, List.getElem?_cons_zero]; rfl)
                  focus exact fun _ _ _ h => h
                  focus rfl
                  focus (intro W hS; (try dsimp only at hS); have q1 := hS.1; have q2 := hS.2.1; go_simp; (try with_reducible rfl))
                  try simp only [Act.put]
                  try simp only [List.setIfInBounds_toArray]
                  try simp only [List.set_cons_succ]
                  try simp only [List.set_cons_zero]
                  refine wpAnyH_take (i := 12) (oi := ?_) (v := ?_) ?_ (by kernel_rfl) (by kernel_rfl) (by kernel_rfl) ?_ (Or.inl ⟨?_, ?_⟩) (by assumption) ?_
                  rotate_left 2
                  focus (simp only [List.getElem?_toArray, List.getElem?_cons_succ, List.getElem?_cons_zero]; rfl)
                  focus exact fun _ _ _ h => h
                  focus rfl
                  focus (intro W hS; (try dsimp only at hS); have q1 := hS.1; have q2 := hS.2.1; go_simp; (try with_reducible rfl))
                  try simp only [Act.put]
                  try simp only [List.setIfInBounds_toArray]
                  try simp only [List.set_cons_succ]
                  try simp only [List.set_cons_zero]
                  refine wpAnyH_take (i := 13) (oi := ?_) (v := ?_) ?_ (by kernel_rfl) (by kernel_rfl) (by kernel_rfl) ?_ (Or.inl ⟨?_, ?_⟩) (by assumption) ?_
                  rotate_left 2
                  focus (simp only [List.getElem?_toArray, List.getElem?_cons_succ, List.getElem?_cons_zero]; rfl)
                  focus exact fun _ _ _ h => h
                  focus rfl
                  focus (intro W hS; (try dsimp only at hS); have q1 := hS.1; have q2 := hS.2.1; go_simp; (try with_reducible rfl))
                  try simp only [Act.put]
                  try simp only [List.setIfInBounds_toArray]
                  try simp only [List.set_cons_succ]
                  try simp only [List.set_cons_zero]
                  refine wpAnyH_take (i := 14) (oi := ?_) (v := ?_) ?_ (by kernel_rfl) (by kernel_rfl) (by kernel_rfl) ?_ (Or.inl ⟨?_, ?_⟩) (by assumption) ?_
                  rotate_left 2
                  focus (simp only [List.getElem?_toArray, List.getElem?_cons_succ, List.getElem?_cons_zero]; rfl)
                  focus exact fun _ _ _ h => h
                  focus rfl
                  focus (intro W hS; (try dsimp only at hS); have q1 := hS.1; have q2 := hS.2.1; go_simp; (try with_reducible rfl))
                  try simp only [Act.put]
                  try simp only [List.setIfInBounds_toArray]
                  try simp only [List.set_cons_succ]
                  try simp only [List.set_cons_zero]
                  refine wpAnyH_take (i := 15) (oi := ?_) (v := ?_) ?_ (by kernel_rfl) (by kernel_rfl) (by kernel_rfl) ?_ (Or.inl ⟨?_, ?_⟩) (by assumption) ?_
                  rotate_left 2
                  focus (simp only [List.getElem?_toArray, List.getElem?_cons_succ, List.getElem?_cons_zero]; rfl)
                  focus exact fun _ _ _ h => h
                  focus rfl
                  focus (intro W hS; (try dsimp only at hS); have q1 := hS.1; have q2 := hS.2.1; go_simp; (try with_reducible rfl))
                  try simp only [Act.put]
                  try simp only [List.setIfInBounds_toArray]
                  try simp only [List.set_cons_succ]
                  try simp only [List.set_cons_zero]
                  refine wpAnyH_take (i := 16) (oi := ?_) (v := ?_) ?_ (by kernel_rfl) (by kernel_rfl) (by kernel_rfl) ?_ (Or.inl ⟨?_, ?_⟩) (by assumption) ?_
                  rotate_left 2
                  focus (simp only [List.getElem?_toArray, List.getElem?_cons_succ, List.getElem?_cons_zero]; rfl)
                  focus exact fun _ _ _ h => h
                  focus rfl
                  focus (intro W hS; (try dsimp only at hS); have q1 := hS.1; have q2 := hS.2.1; go_simp; (try with_reducible rfl))
                  try simp only [Act.put]
                  try simp only [List.setIfInBounds_toArray]
                  try simp only [List.set_cons_succ]
                  try simp only [List.set_cons_zero]
                  refine wpAnyH_ready (rs := [17]) (by kernel_rfl) (by simp) ?_
                  refine AllReadyH.cons (o := ?_) ?_ (fun K hK => ?_) AllReadyH.nil
                  rotate_left
                  focus (simp only [List.getElem?_toArray, List.getElem?_cons_succ, List.getElem?_cons_zero]; rfl)
                  rw [if_pos (by rfl)]
                  go_simp
                  refine (HRE.out _ hHeld.2.2).mono ?_
                  rintro e w9 ⟨rfl, hb9⟩
                  go_wp2_with fail
                  refine hK.out _ _ ⟨stays hb9 hHeld.1, stays hb9 hHeld.2.1, hHeld.2.2.trans (hb9.mono hHeld.2.2.size)⟩ (fun hHeld => ?_)
                  clear hK K
                  try simp only [Act.put]
                  try simp only [List.setIfInBounds_toArray]
                  try simp only [List.set_cons_succ]
                  try simp only [List.set_cons_zero]
                  refine wpAnyH_take (i := 18) (oi := ?_) (v := ?_) ?_ (by kernel_rfl) (by kernel_rfl) (by kernel_rfl) ?_ (Or.inl ⟨?_, ?_⟩) (by assumption) ?_
                  rotate_left 2
                  focus (simp only [List.getElem?_toArray, List.getElem?_cons_succ, List.getElem?_cons_zero]; rfl)
                  focus exact fun _ _ _ h => h
                  focus rfl
                  focus (intro W hS; (try dsimp only at hS); have q1 := hS.1; have q2 := hS.2.1; go_simp; (try with_reducible rfl))
                  try simp only [Act.put]
                  try simp only [List.setIfInBounds_toArray]
                  try simp only [List.set_cons_succ]
                  try simp only [List.set_cons_zero]
                  refine wpAnyH_take (i := 19) (oi := ?_) (v := ?_) ?_ (by kernel_rfl) (by kernel_rfl) (by kernel_rfl) ?_ (Or.inl ⟨?_, ?_⟩) (by assumption) ?_
                  rotate_left 2
                  focus (simp only [List.getElem?_toArray, List.getElem?_cons_succ, List.getElem?_cons_zero]; rfl)
                  focus exact fun _ _ _ h => h
                  focus rfl
                  focus (intro W hS; (try dsimp only at hS); have q1 := hS.1; have q2 := hS.2.1; go_simp; (try with_reducible rfl))
                  try simp only [Act.put]
                  try simp only [List.setIfInBounds_toArray]
                  try simp only [List.set_cons_succ]
                  try simp only [List.set_cons_zero]
                  refine wpAnyH_take (i := 20) (oi := ?_) (v := ?_) ?_ (by kernel_rfl) (by kernel_rfl) (by kernel_rfl) ?_ (Or.inl ⟨?_, ?_⟩) (by assumption) ?_
                  rotate_left 2
                  focus (simp only [List.getElem?_toArray, List.getElem?_cons_succ, List.getElem?_cons_zero]; rfl)
                  focus exact fun _ _ _ h => h
                  focus rfl
                  focus (intro W hS; (try dsimp only at hS); have q1 := hS.1; have q2 := hS.2.1; go_simp; (try with_reducible rfl))
                  try simp only [Act.put]
                  try simp only [List.setIfInBounds_toArray]
                  try simp only [List.set_cons_succ]
                  try simp only [List.set_cons_zero]
                  refine wpAnyH_take (i := 21) (oi := ?_) (v := ?_) ?_ (by kernel_rfl) (by kernel_rfl) (by kernel_rfl) ?_ (Or.inl ⟨?_, ?_⟩) (by assumption) ?_
                  rotate_left 2
                  focus (simp only [List.getElem?_toArray, List.getElem?_cons_succ, List.getElem?_cons_zero]; rfl)
                  focus exact fun _ _ _ h => h
                  focus rfl
                  focus (intro W hS; (try dsimp only at hS); have q1 := hS.1; have q2 := hS.2.1; go_simp; (try with_reducible rfl))
                  try simp only [Act.put]
                  try simp only [List.setIfInBounds_toArray]
                  try simp only [List.set_cons_succ]
                  try simp only [List.set_cons_zero]
                  refine wpAnyH_done (by kernel_rfl) ?_ _
                  go_wp2_with fail
                  go_ret
                  exact ⟨by first | rfl | trivial, HC7.out.trans (hHeld.2.2.mono HC7.out.size)⟩
                · have hm0 : m2 = 0 := hiff.2 ⟨hft, hp⟩
                  have HRE := Lib.hid (fun W (h : Below w6.heap.size w6 W) => (reach_any (c := c) (HN7.out.below h) (by omega) HD2.out d v.id).mono fun e w' ⟨b, h1, h2, h3⟩ => (show e = Ending.returned (.bool false) ∧ Below W.heap.size W w' from by
                    cases b with
                    | false => exact ⟨h1, h3⟩
                    | true => exact absurd (h2.1 rfl).2 hp))
                  clear hiff hp
                  subst hm0
                  go_wp2_with fail
                  refine wp_region_held_drew (S := fun W => W.cell? ⟨b0, q + t * 2, none⟩ = some (.int .u64 d) ∧ W.cell? ⟨b0, q + f * 2, none⟩ = some (.int .u64 v.id) ∧ Below w6.heap.size w6 W) (by kernel_rfl) ⟨ct, cf, (Below.refl _ _).drew⟩ (fun hHeld => ?_)
                  refine wpAnyH_take (i := 0) (oi := ?_) (v := ?_) ?_ (by kernel_rfl) (by kernel_rfl) (by kernel_rfl) ?_ (Or.inl ⟨?_, ?_⟩) (by assumption) ?_
                  rotate_left 2
                  focus (simp only [List.getElem?_toArray, List.getElem?_cons_zero]; rfl)
                  focus exact fun _ _ _ h => h
                  focus rfl
                  focus (intro W hS; (try dsimp only at hS); have q1 := hS.1; have q2 := hS.2.1; go_simp; (try with_reducible rfl))
                  try simp only [Act.put]
                  try simp only [List.setIfInBounds_toArray]
                  try simp only [List.set_cons_succ]
                  try simp only [List.set_cons_zero]
                  refine wpAnyH_take (i := 1) (oi := ?_) (v := ?_) ?_ (by kernel_rfl) (by kernel_rfl) (by kernel_rfl) ?_ (Or.inl ⟨?_, ?_⟩) (by assumption) ?_
                  rotate_left 2
                  focus (simp only [List.getElem?_toArray, List.getElem?_cons_succ, List.getElem?_cons_zero]; rfl)
                  focus exact fun _ _ _ h => h
                  focus rfl
                  focus (intro W hS; (try dsimp only at hS); have q1 := hS.1; have q2 := hS.2.1; go_simp; (try with_reducible rfl))
                  try simp only [Act.put]
                  try simp only [List.setIfInBounds_toArray]
                  try simp only [List.set_cons_succ]
                  try simp only [List.set_cons_zero]
                  refine wpAnyH_take (i := 2) (oi := ?_) (v := ?_) ?_ (by kernel_rfl) (by kernel_rfl) (by kernel_rfl) ?_ (Or.inl ⟨?_, ?_⟩) (by assumption) ?_
                  rotate_left 2
                  focus (simp only [List.getElem?_toArray, List.getElem?_cons_succ, List.getElem?_cons_zero]; rfl)
                  focus exact fun _ _ _ h => h
                  focus rfl
                  focus (intro W hS; (try dsimp only at hS); have q1 := hS.1; have q2 := hS.2.1; go_simp; (try with_reducible rfl))
                  try simp only [Act.put]
                  try simp only [List.setIfInBounds_toArray]
                  try simp only [List.set_cons_succ]
                  try simp only [List.set_cons_zero]
                  refine wpAnyH_take (i := 3) (oi := ?_) (v := ?_) ?_ (by kernel_rfl) (by kernel_rfl) (by kernel_rfl) ?_ (Or.inl ⟨?_, ?_⟩) (by assumption) ?_
                  rotate_left 2
                  focus (simp only [List.getElem?_toArray, List.getElem?_cons_succ, List.getElem?_cons_zero]; rfl)
                  focus exact fun _ _ _ h => h
                  focus rfl
                  focus (intro W hS; (try dsimp only at hS); have q1 := hS.1; have q2 := hS.2.1; go_simp; (try with_reducible rfl))
                  try simp only [Act.put]
                  try simp only [List.setIfInBounds_toArray]
                  try simp only [List.set_cons_succ]
                  try simp only [List.set_cons_zero]
                  refine wpAnyH_take (i := 4) (oi := ?_) (v := ?_) ?_ (by kernel_rfl) (by kernel_rfl) (by kernel_rfl) ?_ (Or.inl ⟨?_, ?_⟩) (by assumption) ?_
                  rotate_left 2
                  focus (simp only [List.getElem?_toArray, List.getElem?_cons_succ, List.getElem?_cons_zero]; rfl)
                  focus exact fun _ _ _ h => h
                  focus rfl
                  focus (intro W hS; (try dsimp only at hS); have q1 := hS.1; have q2 := hS.2.1; go_simp; (try with_reducible rfl))
                  try simp only [Act.put]
                  try simp only [List.setIfInBounds_toArray]
                  try simp only [List.set_cons_succ]
                  try simp only [List.set_cons_zero]
                  refine wpAnyH_take (i := 5) (oi := ?_) (v := ?_) ?_ (by kernel_rfl) (by kernel_rfl) (by kernel_rfl) ?_ (Or.inl ⟨?_, ?_⟩) (by assumption) ?_
                  rotate_left 2
                  focus (simp only [List.getElem?_toArray, List.getElem?_cons_succ, List.getElem?_cons_zero]; rfl)
                  focus exact fun _ _ _ h => h
                  focus rfl
                  focus (intro W hS; (try dsimp only at hS); have q1 := hS.1; have q2 := hS.2.1; go_simp; (try with_reducible rfl))
                  try simp only [Act.put]
                  try simp only [List.setIfInBounds_toArray]
                  try simp only [List.set_cons_succ]
                  try simp only [List.set_cons_zero]
                  refine wpAnyH_take (i := 6) (oi := ?_) (v := ?_) ?_ (by kernel_rfl) (by kernel_rfl) (by kernel_rfl) ?_ (Or.inl ⟨?_, ?_⟩) (by assumption) ?_
                  rotate_left 2
                  focus (simp only [List.getElem?_toArray, List.getElem?_cons_succ, List.getElem?_cons_zero]; rfl)
                  focus exact fun _ _ _ h => h
                  focus rfl
                  focus (intro W hS; (try dsimp only at hS); have q1 := hS.1; have q2 := hS.2.1; go_simp; (try with_reducible rfl))
                  try simp only [Act.put]
                  try simp only [List.setIfInBounds_toArray]
                  try simp only [List.set_cons_succ]
                  try simp only [List.set_cons_zero]
                  refine wpAnyH_take (i := 7) (oi := ?_) (v := ?_) ?_ (by kernel_rfl) (by kernel_rfl) (by kernel_rfl) ?_ (Or.inl ⟨?_, ?_⟩) (by assumption) ?_
                  rotate_left 2
                  focus (simp only [List.getElem?_toArray, List.getElem?_cons_succ, List.getElem?_cons_zero]; rfl)
                  focus exact fun _ _ _ h => h
                  focus rfl
                  focus (intro W hS; (try dsimp only at hS); have q1 := hS.1; have q2 := hS.2.1; go_simp; (try with_reducible rfl))
                  try simp only [Act.put]
                  try simp only [List.setIfInBounds_toArray]
                  try simp only [List.set_cons_succ]
                  try simp only [List.set_cons_zero]
                  refine wpAnyH_take (i := 8) (oi := ?_) (v := ?_) ?_ (by kernel_rfl) (by kernel_rfl) (by kernel_rfl) ?_ (Or.inl ⟨?_, ?_⟩) (by assumption) ?_
                  rotate_left 2
                  focus (simp only [List.getElem?_toArray, List.getElem?_cons_succ, List.getElem?_cons_zero]; rfl)
                  focus exact fun _ _ _ h => h
                  focus rfl
                  focus (intro W hS; (try dsimp only at hS); have q1 := hS.1; have q2 := hS.2.1; go_simp; (try with_reducible rfl))
                  try simp only [Act.put]
                  try simp only [List.setIfInBounds_toArray]
                  try simp only [List.set_cons_succ]
                  try simp only [List.set_cons_zero]
                  refine wpAnyH_take (i := 9) (oi := ?_) (v := ?_) ?_ (by kernel_rfl) (by kernel_rfl) (by kernel_rfl) ?_ (Or.inl ⟨?_, ?_⟩) (by assumption) ?_
                  rotate_left 2
                  focus (simp only [List.getElem?_toArray, List.getElem?_cons_succ, List.getElem?_cons_zero]; rfl)
                  focus exact fun _ _ _ h => h
                  focus rfl
                  focus (intro W hS; (try dsimp only at hS); have q1 := hS.1; have q2 := hS.2.1; go_simp; (try with_reducible rfl))
                  try simp only [Act.put]
                  try simp only [List.setIfInBounds_toArray]
                  try simp only [List.set_cons_succ]
                  try simp only [List.set_cons_zero]
                  refine wpAnyH_take (i := 10) (oi := ?_) (v := ?_) ?_ (by kernel_rfl) (by kernel_rfl) (by kernel_rfl) ?_ (Or.inl ⟨?_, ?_⟩) (by assumption) ?_
                  rotate_left 2
                  focus (simp only [List.getElem?_toArray, List.getElem?_cons_succ, List.getElem?_cons_zero]; rfl)
                  focus exact fun _ _ _ h => h
                  focus rfl
                  focus (intro W hS; (try dsimp only at hS); have q1 := hS.1; have q2 := hS.2.1; go_simp; (try with_reducible rfl))
                  try simp only [Act.put]
                  try simp only [List.setIfInBounds_toArray]
                  try simp only [List.set_cons_succ]
                  try simp only [List.set_cons_zero]
                  refine wpAnyH_take (i := 11) (oi := ?_) (v := ?_) ?_ (by kernel_rfl) (by kernel_rfl) (by kernel_rfl) ?_ (Or.inl ⟨?_, ?_⟩) (by assumption) ?_
                  rotate_left 2
                  focus (simp only [List.getElem?_toArray, List.getElem?_cons_succ, List.getElem?_cons_zero]; rfl)
                  focus exact fun _ _ _ h => h
                  focus rfl
                  focus (intro W hS; (try dsimp only at hS); have q1 := hS.1; have q2 := hS.2.1; go_simp; (try with_reducible rfl))
                  try simp only [Act.put]
                  try simp only [List.setIfInBounds_toArray]
                  try simp only [List.set_cons_succ]
                  try simp only [List.set_cons_zero]
                  refine wpAnyH_take (i := 12) (oi := ?_) (v := ?_) ?_ (by kernel_rfl) (by kernel_rfl) (by kernel_rfl) ?_ (Or.inl ⟨?_, ?_⟩) (by assumption) ?_
                  rotate_left 2
                  focus (simp only [List.getElem?_toArray, List.getElem?_cons_succ, List.getElem?_cons_zero]; rfl)
                  focus exact fun _ _ _ h => h
                  focus rfl
                  focus (intro W hS; (try dsimp only at hS); have q1 := hS.1; have q2 := hS.2.1; go_simp; (try with_reducible rfl))
                  try simp only [Act.put]
                  try simp only [List.setIfInBounds_toArray]
                  try simp only [List.set_cons_succ]
                  try simp only [List.set_cons_zero]
                  refine wpAnyH_take (i := 13) (oi := ?_) (v := ?_) ?_ (by kernel_rfl) (by kernel_rfl) (by kernel_rfl) ?_ (Or.inl ⟨?_, ?_⟩) (by assumption) ?_
                  rotate_left 2
                  focus (simp only [List.getElem?_toArray, List.getElem?_cons_succ, List.getElem?_cons_zero]; rfl)
                  focus exact fun _ _ _ h => h
                  focus rfl
                  focus (intro W hS; (try dsimp only at hS); have q1 := hS.1; have q2 := hS.2.1; go_simp; (try with_reducible rfl))
                  try simp only [Act.put]
                  try simp only [List.setIfInBounds_toArray]
                  try simp only [List.set_cons_succ]
                  try simp only [List.set_cons_zero]
                  refine wpAnyH_take (i := 14) (oi := ?_) (v := ?_) ?_ (by kernel_rfl) (by kernel_rfl) (by kernel_rfl) ?_ (Or.inl ⟨?_, ?_⟩) (by assumption) ?_
                  rotate_left 2
                  focus (simp only [List.getElem?_toArray, List.getElem?_cons_succ, List.getElem?_cons_zero]; rfl)
                  focus exact fun _ _ _ h => h
                  focus rfl
                  focus (intro W hS; (try dsimp only at hS); have q1 := hS.1; have q2 := hS.2.1; go_simp; (try with_reducible rfl))
                  try simp only [Act.put]
                  try simp only [List.setIfInBounds_toArray]
                  try simp only [List.set_cons_succ]
                  try simp only [List.set_cons_zero]
                  refine wpAnyH_take (i := 15) (oi := ?_) (v := ?_) ?_ (by kernel_rfl) (by kernel_rfl) (by kernel_rfl) ?_ (Or.inl ⟨?_, ?_⟩) (by assumption) ?_
                  rotate_left 2
                  focus (simp only [List.getElem?_toArray, List.getElem?_cons_succ, List.getElem?_cons_zero]; rfl)
                  focus exact fun _ _ _ h => h
                  focus rfl
                  focus (intro W hS; (try dsimp only at hS); have q1 := hS.1; have q2 := hS.2.1; go_simp; (try with_reducible rfl))
                  try simp only [Act.put]
                  try simp only [List.setIfInBounds_toArray]
                  try simp only [List.set_cons_succ]
                  try simp only [List.set_cons_zero]
                  refine wpAnyH_take (i := 16) (oi := ?_) (v := ?_) ?_ (by kernel_rfl) (by kernel_rfl) (by kernel_rfl) ?_ (Or.inl ⟨?_, ?_⟩) (by assumption) ?_
                  rotate_left 2
                  focus (simp only [List.getElem?_toArray, List.getElem?_cons_succ, List.getElem?_cons_zero]; rfl)
                  focus exact fun _ _ _ h => h
                  focus rfl
                  focus (intro W hS; (try dsimp only at hS); have q1 := hS.1; have q2 := hS.2.1; go_simp; (try with_reducible rfl))
                  try simp only [Act.put]
                  try simp only [List.setIfInBounds_toArray]
                  try simp only [List.set_cons_succ]
                  try simp only [List.set_cons_zero]
                  refine wpAnyH_ready (rs := [17]) (by kernel_rfl) (by simp) ?_
                  refine AllReadyH.cons (o := ?_) ?_ (fun K hK => ?_) AllReadyH.nil
                  rotate_left
                  focus (simp only [List.getElem?_toArray, List.getElem?_cons_succ, List.getElem?_cons_zero]; rfl)
                  rw [if_pos (by rfl)]
                  go_simp
                  refine (HRE.out _ hHeld.2.2).mono ?_
                  rintro e w9 ⟨rfl, hb9⟩
                  go_wp2_with fail
                  refine hK.out _ _ ⟨stays hb9 hHeld.1, stays hb9 hHeld.2.1, hHeld.2.2.trans (hb9.mono hHeld.2.2.size)⟩ (fun hHeld => ?_)
                  clear hK K
                  try simp only [Act.put]
                  try simp only [List.setIfInBounds_toArray]
                  try simp only [List.set_cons_succ]
                  try simp only [List.set_cons_zero]
                  refine wpAnyH_take (i := 18) (oi := ?_) (v := ?_) ?_ (by kernel_rfl) (by kernel_rfl) (by kernel_rfl) ?_ (Or.inl ⟨?_, ?_⟩) (by assumption) ?_
                  rotate_left 2
                  focus (simp only [List.getElem?_toArray, List.getElem?_cons_succ, List.getElem?_cons_zero]; rfl)
                  focus exact fun _ _ _ h => h
                  focus rfl
                  focus (intro W hS; (try dsimp only at hS); have q1 := hS.1; have q2 := hS.2.1; go_simp; (try with_reducible rfl))
                  try simp only [Act.put]
                  try simp only [List.setIfInBounds_toArray]
                  try simp only [List.set_cons_succ]
                  try simp only [List.set_cons_zero]
                  refine wpAnyH_take (i := 19) (oi := ?_) (v := ?_) ?_ (by kernel_rfl) (by kernel_rfl) (by kernel_rfl) ?_ (Or.inl ⟨?_, ?_⟩) (by assumption) ?_
                  rotate_left 2
                  focus (simp only [List.getElem?_toArray, List.getElem?_cons_succ, List.getElem?_cons_zero]; rfl)
                  focus exact fun _ _ _ h => h
                  focus rfl
                  focus (intro W hS; (try dsimp only at hS); have q1 := hS.1; have q2 := hS.2.1; go_simp; (try with_reducible rfl))
                  try simp only [Act.put]
                  try simp only [List.setIfInBounds_toArray]
                  try simp only [List.set_cons_succ]
                  try simp only [List.set_cons_zero]
                  refine wpAnyH_take (i := 20) (oi := ?_) (v := ?_) ?_ (by kernel_rfl) (by kernel_rfl) (by kernel_rfl) ?_ (Or.inl ⟨?_, ?_⟩) (by assumption) ?_
                  rotate_left 2
                  focus (simp only [List.getElem?_toArray, List.getElem?_cons_succ, List.getElem?_cons_zero]; rfl)
                  focus exact fun _ _ _ h => h
                  focus rfl
                  focus (intro W hS; (try dsimp only at hS); have q1 := hS.1; have q2 := hS.2.1; go_simp; (try with_reducible rfl))
                  try simp only [Act.put]
                  try simp only [List.setIfInBounds_toArray]
                  try simp only [List.set_cons_succ]
                  try simp only [List.set_cons_zero]
                  refine wpAnyH_take (i := 21) (oi := ?_) (v := ?_) ?_ (by kernel_rfl) (by kernel_rfl) (by kernel_rfl) ?_ (Or.inl ⟨?_, ?_⟩) (by assumption) ?_
                  rotate_left 2
                  focus (simp only [List.getElem?_toArray, List.getElem?_cons_succ, List.getElem?_cons_zero]; rfl)
                  focus exact fun _ _ _ h => h
                  focus rfl
                  focus (intro W hS; (try dsimp only at hS); have q1 := hS.1; have q2 := hS.2.1; go_simp; (try with_reducible rfl))
                  try simp only [Act.put]
                  try simp only [List.setIfInBounds_toArray]
                  try simp only [List.set_cons_succ]
                  try simp only [List.set_cons_zero]
                  refine wpAnyH_done (by kernel_rfl) ?_ _
                  go_wp2_with fail
                  go_ret
                  exact ⟨by first | rfl | trivial, HC7.out.trans (hHeld.2.2.mono HC7.out.size)⟩
              refine AllReadyH.cons (o := ?_) ?_ (fun K hK => ?_) AllReadyH.nil
              rotate_left
              focus (simp only [List.getElem?_toArray, List.getElem?_cons_succ, List.getElem?_cons_zero]; rfl)
              rw [if_pos (by rfl)]
              go_simp
              have hq := HQ.out.lit d
              obtain ⟨s, hs⟩ : ∃ s, s = u1.heap.size := ⟨_, rfl⟩
              obtain ⟨u2, hu⟩ : ∃ u, u = u1.alloc (.cells #[.int .u64 d] 23) := ⟨_, rfl⟩
              rw [← hu, ← hs] at hq
              rw [← hu, ← hs]
              clear hu hs HQ
              have HQ := Lib.hid hq
              clear hq
              refine hK.out _ _ ⟨HS1.out _ HQ.out.bel, HS2.out _ HQ.out.bel⟩ (fun hHeld => ?_)
              clear hK K
              try simp only [Act.put]
              try simp only [List.setIfInBounds_toArray]
              try simp only [List.set_cons_succ]
              try simp only [List.set_cons_zero]
              refine wpAnyH_ready (rs := [8]) (by kernel_rfl) (by simp) ?_
              refine AllReadyH.cons (o := ?_) ?_ (fun K hK => ?_) AllReadyH.nil
              rotate_left
              focus (simp only [List.getElem?_toArray, List.getElem?_cons_succ, List.getElem?_cons_zero]; rfl)
              rw [if_pos (by rfl)]
              obtain ⟨vd, u3, hrun, hq⟩ := HQ.out.app (c := v.dc) (by simp) (HVF.out.deps.below HQ.out.bel) (by omega) HNIL.out
              rw [List.nil_append] at hq
              refine wp_append_run13 rfl rfl rfl hrun ?_
              clear hrun HQ
              have HQ := Lib.hid hq
              clear hq
              refine hK.out _ _ ⟨HS1.out _ HQ.out.bel, HS2.out _ HQ.out.bel⟩ (fun hHeld => ?_)
              clear hK K
              try simp only [Act.put]
              try simp only [List.setIfInBounds_toArray]
              try simp only [List.set_cons_succ]
              try simp only [List.set_cons_zero]
              refine wpAnyH_ready (rs := [15]) (by kernel_rfl) (by simp) ?_
              refine AllReadyH.cons (o := ?_) ?_ (fun K hK => ?_) AllReadyH.nil
              rotate_left
              focus (simp only [List.getElem?_toArray, List.getElem?_cons_succ, List.getElem?_cons_zero]; rfl)
              rw [if_pos (by rfl)]
              obtain ⟨vm, u4, hrun, hq⟩ := HQ.out.app1 (by first | omega | (simp; omega)) (s := s) (d := d) (by simp) hdu
              refine wp_append_run13 rfl rfl rfl hrun ?_
              clear hrun HQ
              have HQ := Lib.hid hq
              clear hq
              refine hK.out _ _ ⟨HS1.out _ HQ.out.bel, HS2.out _ HQ.out.bel⟩ (fun hHeld => ?_)
              clear hK K
              try simp only [Act.put]
              try simp only [List.setIfInBounds_toArray]
              try simp only [List.set_cons_succ]
              try simp only [List.set_cons_zero]
              refine wpAnyH_take (i := 16) (oi := ?_) (v := ?_) ?_ (by kernel_rfl) (by kernel_rfl) (by kernel_rfl) ?_ (Or.inl ⟨?_, ?_⟩) (by assumption) ?_
              rotate_left 2
              focus (simp only [List.getElem?_toArray, List.getElem?_cons_succ, List.getElem?_cons_zero]; rfl)
              focus exact fun _ _ _ h => h
              focus rfl
              focus (intro W hS; (try dsimp only at hS); have q1 := hS.1; have q2 := hS.2; go_simp; (try with_reducible rfl))
              try simp only [Act.put]
              try simp only [List.setIfInBounds_toArray]
              try simp only [List.set_cons_succ]
              try simp only [List.set_cons_zero]
              refine wpAnyH_take (i := 17) (oi := ?_) (v := ?_) ?_ (by kernel_rfl) (by kernel_rfl) (by kernel_rfl) ?_ (Or.inl ⟨?_, ?_⟩) (by assumption) ?_
              rotate_left 2
              focus (simp only [List.getElem?_toArray, List.getElem?_cons_succ, List.getElem?_cons_zero]; rfl)
              focus exact fun _ _ _ h => h
              focus rfl
              focus (intro W hS; (try dsimp only at hS); have q1 := hS.1; have q2 := hS.2; go_simp; (try with_reducible rfl))
              try simp only [Act.put]
              try simp only [List.setIfInBounds_toArray]
              try simp only [List.set_cons_succ]
              try simp only [List.set_cons_zero]
              refine wpAnyH_ready (rs := [18]) (by kernel_rfl) (by simp) ?_
              refine AllReadyH.cons (o := ?_) ?_ (fun K hK => ?_) AllReadyH.nil
              rotate_left
              focus (simp only [List.getElem?_toArray, List.getElem?_cons_succ, List.getElem?_cons_zero]; rfl)
              rw [if_pos (by rfl)]
              obtain ⟨ma, mc, rfl⟩ := HQ.out.row.shape
              have hcp := HCP.out.same (HQ.out.bel.block _ HCP.out.lt)
              obtain ⟨x1, x2⟩ := hcp.at_ (j := f * 2 + 1) (by omega)
              rw [(flatN_at hfl).2] at x1
              go_simp
              obtain ⟨hn5, hb5⟩ := more_nodes HCP.out HQ.out HB5.out HEA.out hfl HVV.out hdu hgB
              refine hK.out _ _ ⟨(World.cell?_of_block (w := u4) (a := ⟨b0, q + f * 2 + 1, none⟩) (Below.heap_setCell _ _ _ _ hbg)).trans (HS1.out _ HQ.out.bel), (World.cell?_of_block (w := u4) (a := ⟨b0, q + t * 2, none⟩) (Below.heap_setCell _ _ _ _ hbg)).trans (HS2.out _ HQ.out.bel)⟩ (fun hHeld => ?_)
              clear hK K
              try simp only [Act.put]
              try simp only [List.setIfInBounds_toArray]
              try simp only [List.set_cons_succ]
              try simp only [List.set_cons_zero]
              refine wpAnyH_done (by kernel_rfl) ?_ _
              rw [show (v.deps ++ [d]).length = v.deps.length + 1 by simp] at hn5 hb5
              obtain ⟨w5, hw5⟩ : ∃ w5, w5 = u4.setCell ⟨g2, f * 2 + 1, none⟩ (.slice ma (v.deps.length + 1) mc) := ⟨_, rfl⟩
              rw [← hw5] at hn5 hb5
              rw [← hw5]
              have hmo := may_any (c := cap) hn5 (by simp; omega) (HDL5.out ma mc)
              rw [List.length_set, rowOf_set l hfl ⟨v.id, ma, mc, v.deps ++ [d]⟩ d (by rw [HVV.out]) (by rw [HVV.out])] at hmo
              rw [HM2.out] at hmo
              have HMO := Lib.hid hmo
              have HB6 := Lib.hid hb5
              clear hn5 hb5 hw5 hmo hHeld HQ HS1 HS2 HVF HCP x1 x2 hcp
              go_wp2_with fail
              refine HMO.out.mono ?_
              rintro e w6 ⟨rfl, hb6⟩
              have HB7 := Lib.hid (HB6.out.trans (hb6.mono HB6.out.size))
              clear HMO HB6 hb6
              have HC7 := Lib.hid (HCD.out.trans (HB7.out.mono HCD.out.size))
              have HN7 := Lib.hid (HND.out.below HB7.out)
              have ct : w6.cell? ⟨b0, q + t * 2, none⟩ = some (.int .u64 d) := by
                obtain ⟨_, h, _⟩ := HCC.out t htl
                rw [HDD.out] at h
                exact stays HB7.out h
              have cf : w6.cell? ⟨b0, q + f * 2, none⟩ = some (.int .u64 v.id) := by
                obtain ⟨_, h, _⟩ := HCC.out f hfl
                rw [HVV.out] at h
                exact stays HB7.out h
              by_cases hm3 : m2 = 3
              · subst hm3
                go_wp2_with fail
                go_ret
                exact ⟨by first | rfl | trivial, HC7.out⟩
              by_cases hm130 : m2 = 130
              · subst hm130
                go_wp2_with fail
                go_ret
                exact ⟨by first | rfl | trivial, HC7.out⟩
              have hiff := HIFF.out hm3 hm130
              have hm3b : (m2 == 3) = false := by simpa using hm3
              have hm130b : (m2 == 130) = false := by simpa using hm130
              by_cases hft : f = t
              · subst hft
                have hm0 : ¬ m2 = 0 := fun h => (hiff.1 h).1 rfl
                have hm0b : (m2 == 0) = false := by simpa using hm0
                clear hiff
                go_wp2_with fail
                clear ct cf
                refine wp_region_held_drew (S := fun W => Below w6.heap.size w6 W ∧ True) (by kernel_rfl) ⟨(Below.refl _ _).drew, trivial⟩ (fun hHeld => ?_)
                refine wpAnyH_take (i := 0) (oi := ?_) (v := ?_) ?_ (by kernel_rfl) (by kernel_rfl) (by kernel_rfl) ?_ (Or.inl ⟨?_, ?_⟩) (by assumption) ?_
                rotate_left 2
                focus (simp only [List.getElem?_toArray, List.getElem?_cons_zero]; rfl)
                focus exact fun _ _ _ h => h
                focus rfl
                focus (intro W hS; (try dsimp only at hS); have q1 := hS.1; have q2 := hS.2; go_simp; (try with_reducible rfl))
                try simp only [Act.put]
                try simp only [List.setIfInBounds_toArray]
                try simp only [List.set_cons_succ]
                try simp only [List.set_cons_zero]
                refine wpAnyH_take (i := 1) (oi := ?_) (v := ?_) ?_ (by kernel_rfl) (by kernel_rfl) (by kernel_rfl) ?_ (Or.inl ⟨?_, ?_⟩) (by assumption) ?_
                rotate_left 2
                focus (simp only [List.getElem?_toArray, List.getElem?_cons_succ, List.getElem?_cons_zero]; rfl)
                focus exact fun _ _ _ h => h
                focus rfl
                focus (intro W hS; (try dsimp only at hS); have q1 := hS.1; have q2 := hS.2; go_simp; (try with_reducible rfl))
                try simp only [Act.put]
                try simp only [List.setIfInBounds_toArray]
                try simp only [List.set_cons_succ]
                try simp only [List.set_cons_zero]
                refine wpAnyH_take (i := 2) (oi := ?_) (v := ?_) ?_ (by kernel_rfl) (by kernel_rfl) (by kernel_rfl) ?_ (Or.inl ⟨?_, ?_⟩) (by assumption) ?_
                rotate_left 2
                focus (simp only [List.getElem?_toArray, List.getElem?_cons_succ, List.getElem?_cons_zero]; rfl)
                focus exact fun _ _ _ h => h
                focus rfl
                focus (intro W hS; (try dsimp only at hS); have q1 := hS.1; have q2 := hS.2; go_simp; (try with_reducible rfl))
                try simp only [Act.put]
                try simp only [List.setIfInBounds_toArray]
                try simp only [List.set_cons_succ]
                try simp only [List.set_cons_zero]
                refine wpAnyH_take (i := 3) (oi := ?_) (v := ?_) ?_ (by kernel_rfl) (by kernel_rfl) (by kernel_rfl) ?_ (Or.inl ⟨?_, ?_⟩) (by assumption) ?_
                rotate_left 2
                focus (simp only [List.getElem?_toArray, List.getElem?_cons_succ, List.getElem?_cons_zero]; rfl)
                focus exact fun _ _ _ h => h
                focus rfl
                focus (intro W hS; (try dsimp only at hS); have q1 := hS.1; have q2 := hS.2; go_simp; (try with_reducible rfl))
                try simp only [Act.put]
                try simp only [List.setIfInBounds_toArray]
                try simp only [List.set_cons_succ]
                try simp only [List.set_cons_zero]
                refine wpAnyH_take (i := 4) (oi := ?_) (v := ?_) ?_ (by kernel_rfl) (by kernel_rfl) (by kernel_rfl) ?_ (Or.inl ⟨?_, ?_⟩) (by assumption) ?_
                rotate_left 2
                focus (simp only [List.getElem?_toArray, List.getElem?_cons_succ, List.getElem?_cons_zero]; rfl)
                focus exact fun _ _ _ h => h
                focus rfl
                focus (intro W hS; (try dsimp only at hS); have q1 := hS.1; have q2 := hS.2; go_simp; (try with_reducible rfl))
                try simp only [Act.put]
                try simp only [List.setIfInBounds_toArray]
                try simp only [List.set_cons_succ]
                try simp only [List.set_cons_zero]
                refine wpAnyH_take (i := 5) (oi := ?_) (v := ?_) ?_ (by kernel_rfl) (by kernel_rfl) (by kernel_rfl) ?_ (Or.inl ⟨?_, ?_⟩) (by assumption) ?_
                rotate_left 2
                focus (simp only [List.getElem?_toArray, List.getElem?_cons_succ, List.getElem?_cons_zero]; rfl)
                focus exact fun _ _ _ h => h
                focus rfl
                focus (intro W hS; (try dsimp only at hS); have q1 := hS.1; have q2 := hS.2; go_simp; (try with_reducible rfl))
                try simp only [Act.put]
                try simp only [List.setIfInBounds_toArray]
                try simp only [List.set_cons_succ]
                try simp only [List.set_cons_zero]
                refine wpAnyH_take (i := 6) (oi := ?_) (v := ?_) ?_ (by kernel_rfl) (by kernel_rfl) (by kernel_rfl) ?_ (Or.inr ⟨?_, ?_⟩) (by assumption) ?_
                rotate_left 2
                focus (simp only [List.getElem?_toArray, List.getElem?_cons_succ, List.getElem?_cons_zero]; rfl)
                focus exact fun _ _ _ h => h
                focus rfl
                focus rfl
                try simp only [Act.put]
                try simp only [List.setIfInBounds_toArray]
                try simp only [List.set_cons_succ]
                try simp only [List.set_cons_zero]
                refine wpAnyH_take (i := 7) (oi := ?_) (v := ?_) ?_ (by kernel_rfl) (by kernel_rfl) (by kernel_rfl) ?_ (Or.inr ⟨?_, ?_⟩) (by assumption) ?_
                rotate_left 2
                focus (simp only [List.getElem?_toArray, List.getElem?_cons_succ, List.getElem?_cons_zero]; rfl)
                focus exact fun _ _ _ h => h
                focus rfl
                focus rfl
                try simp only [Act.put]
                try simp only [List.setIfInBounds_toArray]
                try simp only [List.set_cons_succ]
                try simp only [List.set_cons_zero]
                refine wpAnyH_take (i := 8) (oi := ?_) (v := ?_) ?_ (by kernel_rfl) (by kernel_rfl) (by kernel_rfl) ?_ (Or.inr ⟨?_, ?_⟩) (by assumption) ?_
                rotate_left 2
                focus (simp only [List.getElem?_toArray, List.getElem?_cons_succ, List.getElem?_cons_zero]; rfl)
                focus exact fun _ _ _ h => h
                focus rfl
                focus rfl
                try simp only [Act.put]
                try simp only [List.setIfInBounds_toArray]
                try simp only [List.set_cons_succ]
                try simp only [List.set_cons_zero]
                refine wpAnyH_take (i := 9) (oi := ?_) (v := ?_) ?_ (by kernel_rfl) (by kernel_rfl) (by kernel_rfl) ?_ (Or.inr ⟨?_, ?_⟩) (by assumption) ?_
                rotate_left 2
                focus (simp only [List.getElem?_toArray, List.getElem?_cons_succ, List.getElem?_cons_zero]; rfl)
                focus exact fun _ _ _ h => h
                focus rfl
                focus rfl
                try simp only [Act.put]
                try simp only [List.setIfInBounds_toArray]
                try simp only [List.set_cons_succ]
                try simp only [List.set_cons_zero]
                refine wpAnyH_take (i := 10) (oi := ?_) (v := ?_) ?_ (by kernel_rfl) (by kernel_rfl) (by kernel_rfl) ?_ (Or.inr ⟨?_, ?_⟩) (by assumption) ?_
                rotate_left 2
                focus (simp only [List.getElem?_toArray, List.getElem?_cons_succ, List.getElem?_cons_zero]; rfl)
                focus exact fun _ _ _ h => h
                focus rfl
                focus rfl
                try simp only [Act.put]
                try simp only [List.setIfInBounds_toArray]
                try simp only [List.set_cons_succ]
                try simp only [List.set_cons_zero]
                refine wpAnyH_take (i := 11) (oi := ?_) (v := ?_) ?_ (by kernel_rfl) (by kernel_rfl) (by kernel_rfl) ?_ (Or.inr ⟨?_, ?_⟩) (by assumption) ?_
                rotate_left 2
                focus (simp only [List.getElem?_toArray, List.getElem?_cons_succ, List.getElem?_cons_zero]; rfl)
                focus exact fun _ _ _ h => h
                focus rfl
                focus rfl
                try simp only [Act.put]
                try simp only [List.setIfInBounds_toArray]
                try simp only [List.set_cons_succ]
                try simp only [List.set_cons_zero]
                refine wpAnyH_take (i := 12) (oi := ?_) (v := ?_) ?_ (by kernel_rfl) (by kernel_rfl) (by kernel_rfl) ?_ (Or.inr ⟨?_, ?_⟩) (by assumption) ?_
                rotate_left 2
                focus (simp only [List.getElem?_toArray, List.getElem?_cons_succ, List.getElem?_cons_zero]; rfl)
                focus exact fun _ _ _ h => h
                focus rfl
                focus rfl
                try simp only [Act.put]
                try simp only [List.setIfInBounds_toArray]
                try simp only [List.set_cons_succ]
                try simp only [List.set_cons_zero]
                refine wpAnyH_take (i := 13) (oi := ?_) (v := ?_) ?_ (by kernel_rfl) (by kernel_rfl) (by kernel_rfl) ?_ (Or.inr ⟨?_, ?_⟩) (by assumption) ?_
                rotate_left 2
                focus (simp only [List.getElem?_toArray, List.getElem?_cons_succ, List.getElem?_cons_zero]; rfl)
                focus exact fun _ _ _ h => h
                focus rfl
                focus rfl
                try simp only [Act.put]
                try simp only [List.setIfInBounds_toArray]
                try simp only [List.set_cons_succ]
                try simp only [List.set_cons_zero]
                refine wpAnyH_take (i := 14) (oi := ?_) (v := ?_) ?_ (by kernel_rfl) (by kernel_rfl) (by kernel_rfl) ?_ (Or.inr ⟨?_, ?_⟩) (by assumption) ?_
                rotate_left 2
                focus (simp only [List.getElem?_toArray, List.getElem?_cons_succ, List.getElem?_cons_zero]; rfl)
                focus exact fun _ _ _ h => h
                focus rfl
                focus rfl
                try simp only [Act.put]
                try simp only [List.setIfInBounds_toArray]
                try simp only [List.set_cons_succ]
                try simp only [List.set_cons_zero]
                refine wpAnyH_take (i := 15) (oi := ?_) (v := ?_) ?_ (by kernel_rfl) (by kernel_rfl) (by kernel_rfl) ?_ (Or.inr ⟨?_, ?_⟩) (by assumption) ?_
                rotate_left 2
                focus (simp only [List.getElem?_toArray, List.getElem?_cons_succ, List.getElem?_cons_zero]; rfl)
                focus exact fun _ _ _ h => h
                focus rfl
                focus rfl
                try simp only [Act.put]
                try simp only [List.setIfInBounds_toArray]
                try simp only [List.set_cons_succ]
                try simp only [List.set_cons_zero]
                refine wpAnyH_take (i := 16) (oi := ?_) (v := ?_) ?_ (by kernel_rfl) (by kernel_rfl) (by kernel_rfl) ?_ (Or.inr ⟨?_, ?_⟩) (by assumption) ?_
                rotate_left 2
                focus (simp only [List.getElem?_toArray, List.getElem?_cons_succ, List.getElem?_cons_zero]; rfl)
                focus exact fun _ _ _ h => h
                focus rfl
                focus rfl
                try simp only [Act.put]
                try simp only [List.setIfInBounds_toArray]
                try simp only [List.set_cons_succ]
                try simp only [List.set_cons_zero]
                refine wpAnyH_take (i := 17) (oi := ?_) (v := ?_) ?_ (by kernel_rfl) (by kernel_rfl) (by kernel_rfl) ?_ (Or.inr ⟨?_, ?_⟩) (by assumption) ?_
                rotate_left 2
                focus (simp only [List.getElem?_toArray, List.getElem?_cons_succ, List.getElem?_cons_zero]; rfl)
                focus exact fun _ _ _ h => h
                focus rfl
                focus rfl
                try simp only [Act.put]
                try simp only [List.setIfInBounds_toArray]
                try simp only [List.set_cons_succ]
                try simp only [List.set_cons_zero]
                refine wpAnyH_take (i := 18) (oi := ?_) (v := ?_) ?_ (by kernel_rfl) (by kernel_rfl) (by kernel_rfl) ?_ (Or.inr ⟨?_, ?_⟩) (by assumption) ?_
                rotate_left 2
                focus (simp only [List.getElem?_toArray, List.getElem?_cons_succ, List.getElem?_cons_zero]; rfl)
                focus exact fun _ _ _ h => h
                focus rfl
                focus rfl
                try simp only [Act.put]
                try simp only [List.setIfInBounds_toArray]
                try simp only [List.set_cons_succ]
                try simp only [List.set_cons_zero]
                refine wpAnyH_take (i := 19) (oi := ?_) (v := ?_) ?_ (by kernel_rfl) (by kernel_rfl) (by kernel_rfl) ?_ (Or.inl ⟨?_, ?_⟩) (by assumption) ?_
                rotate_left 2
                focus (simp only [List.getElem?_toArray, List.getElem?_cons_succ, List.getElem?_cons_zero]; rfl)
                focus exact fun _ _ _ h => h
                focus rfl
                focus (intro W hS; (try dsimp only at hS); have q1 := hS.1; have q2 := hS.2; go_simp; (try with_reducible rfl))
                try simp only [Act.put]
                try simp only [List.setIfInBounds_toArray]
                try simp only [List.set_cons_succ]
                try simp only [List.set_cons_zero]
                refine wpAnyH_take (i := 20) (oi := ?_) (v := ?_) ?_ (by kernel_rfl) (by kernel_rfl) (by kernel_rfl) ?_ (Or.inl ⟨?_, ?_⟩) (by assumption) ?_
                rotate_left 2
                focus (simp only [List.getElem?_toArray, List.getElem?_cons_succ, List.getElem?_cons_zero]; rfl)
                focus exact fun _ _ _ h => h
                focus rfl
                focus (intro W hS; (try dsimp only at hS); have q1 := hS.1; have q2 := hS.2; go_simp; (try with_reducible rfl))
                try simp only [Act.put]
                try simp only [List.setIfInBounds_toArray]
                try simp only [List.set_cons_succ]
                try simp only [List.set_cons_zero]
                refine wpAnyH_take (i := 21) (oi := ?_) (v := ?_) ?_ (by kernel_rfl) (by kernel_rfl) (by kernel_rfl) ?_ (Or.inl ⟨?_, ?_⟩) (by assumption) ?_
                rotate_left 2
                focus (simp only [List.getElem?_toArray, List.getElem?_cons_succ, List.getElem?_cons_zero]; rfl)
                focus exact fun _ _ _ h => h
                focus rfl
                focus (intro W hS; (try dsimp only at hS); have q1 := hS.1; have q2 := hS.2; go_simp; (try with_reducible rfl))
                try simp only [Act.put]
                try simp only [List.setIfInBounds_toArray]
                try simp only [List.set_cons_succ]
                try simp only [List.set_cons_zero]
                refine wpAnyH_done (by kernel_rfl) ?_ _
                go_wp2_with fail
                go_ret
                exact ⟨by first | rfl | trivial, HC7.out.drew⟩
              have hne1 : ((f : Int) == (t : Int)) = false := by simp; omega
              have hne2 : (f == t) = false := by simpa using hft
              have hne3 : ((f : Int) != (t : Int)) = true := by simp; omega
              by_cases hp : Path (rowOf l) d v.id
              · have hm0 : ¬ m2 = 0 := fun h => (hiff.1 h).2 hp
                have hm0b : (m2 == 0) = false := by simpa using hm0
                have HRE := Lib.hid (fun W (h : Below w6.heap.size w6 W) => (reach_any (c := c) (HN7.out.below h) (by omega) HD2.out d v.id).mono fun e w' ⟨b, h1, h2, h3⟩ => (show e = Ending.returned (.bool true) ∧ Below W.heap.size W w' from by
                  obtain rfl : b = true := h2.2 ⟨h64, hp⟩
                  exact ⟨h1, h3⟩))
                clear hiff hp
                go_wp2_with fail
                refine wp_region_held_drew (S := fun W => W.cell? ⟨b0, q + t * 2, none⟩ = some (.int .u64 d) ∧ W.cell? ⟨b0, q + f * 2, none⟩ = some (.int .u64 v.id) ∧ Below w6.heap.size w6 W) (by kernel_rfl) ⟨ct, cf, (Below.refl _ _).drew⟩ (fun hHeld => ?_)
                refine wpAnyH_take (i := 0) (oi := ?_) (v := ?_) ?_ (by kernel_rfl) (by kernel_rfl) (by kernel_rfl) ?_ (Or.inl ⟨?_, ?_⟩) (by assumption) ?_
                rotate_left 2
                focus (simp only [List.getElem?_toArray, List.getElem?_cons_zero]; rfl)
                focus exact fun _ _ _ h => h
                focus rfl
                focus (intro W hS; (try dsimp only at hS); have q1 := hS.1; have q2 := hS.2.1; go_simp; (try with_reducible rfl))
                try simp only [Act.put]
                try simp only [List.setIfInBounds_toArray]
                try simp only [List.set_cons_succ]
                try simp only [List.set_cons_zero]
                refine wpAnyH_take (i := 1) (oi := ?_) (v := ?_) ?_ (by kernel_rfl) (by kernel_rfl) (by kernel_rfl) ?_ (Or.inl ⟨?_, ?_⟩) (by assumption) ?_
                rotate_left 2
                focus (simp only [List.getElem?_toArray, List.getElem?_cons_succ, List.getElem?_cons_zero]; rfl)
                focus exact fun _ _ _ h => h
                focus rfl
                focus (intro W hS; (try dsimp only at hS); have q1 := hS.1; have q2 := hS.2.1; go_simp; (try with_reducible rfl))
                try simp only [Act.put]
                try simp only [List.setIfInBounds_toArray]
                try simp only [List.set_cons_succ]
                try simp only [List.set_cons_zero]
                refine wpAnyH_take (i := 2) (oi := ?_) (v := ?_) ?_ (by kernel_rfl) (by kernel_rfl) (by kernel_rfl) ?_ (Or.inl ⟨?_, ?_⟩) (by assumption) ?_
                rotate_left 2
                focus (simp only [List.getElem?_toArray, List.getElem?_cons_succ, List.getElem?_cons_zero]; rfl)
                focus exact fun _ _ _ h => h
                focus rfl
                focus (intro W hS; (try dsimp only at hS); have q1 := hS.1; have q2 := hS.2.1; go_simp; (try with_reducible rfl))
                try simp only [Act.put]
                try simp only [List.setIfInBounds_toArray]
                try simp only [List.set_cons_succ]
                try simp only [List.set_cons_zero]
                refine wpAnyH_take (i := 3) (oi := ?_) (v := ?_) ?_ (by kernel_rfl) (by kernel_rfl) (by kernel_rfl) ?_ (Or.inl ⟨?_, ?_⟩) (by assumption) ?_
                rotate_left 2
                focus (simp only [List.getElem?_toArray, List.getElem?_cons_succ, List.getElem?_cons_zero]; rfl)
                focus exact fun _ _ _ h => h
                focus rfl
                focus (intro W hS; (try dsimp only at hS); have q1 := hS.1; have q2 := hS.2.1; go_simp; (try with_reducible rfl))
                try simp only [Act.put]
                try simp only [List.setIfInBounds_toArray]
                try simp only [List.set_cons_succ]
                try simp only [List.set_cons_zero]
                refine wpAnyH_take (i := 4) (oi := ?_) (v := ?_) ?_ (by kernel_rfl) (by kernel_rfl) (by kernel_rfl) ?_ (Or.inl ⟨?_, ?_⟩) (by assumption) ?_
                rotate_left 2
                focus (simp only [List.getElem?_toArray, List.getElem?_cons_succ, List.getElem?_cons_zero]; rfl)
                focus exact fun _ _ _ h => h
                focus rfl
                focus (intro W hS; (try dsimp only at hS); have q1 := hS.1; have q2 := hS.2.1; go_simp; (try with_reducible rfl))
                try simp only [Act.put]
                try simp only [List.setIfInBounds_toArray]
                try simp only [List.set_cons_succ]
                try simp only [List.set_cons_zero]
                refine wpAnyH_take (i := 5) (oi := ?_) (v := ?_) ?_ (by kernel_rfl) (by kernel_rfl) (by kernel_rfl) ?_ (Or.inl ⟨?_, ?_⟩) (by assumption) ?_
                rotate_left 2
                focus (simp only [List.getElem?_toArray, List.getElem?_cons_succ, List.getElem?_cons_zero]; rfl)
                focus exact fun _ _ _ h => h
                focus rfl
                focus (intro W hS; (try dsimp only at hS); have q1 := hS.1; have q2 := hS.2.1; go_simp; (try with_reducible rfl))
                try simp only [Act.put]
                try simp only [List.setIfInBounds_toArray]
                try simp only [List.set_cons_succ]
                try simp only [List.set_cons_zero]
                refine wpAnyH_take (i := 6) (oi := ?_) (v := ?_) ?_ (by kernel_rfl) (by kernel_rfl) (by kernel_rfl) ?_ (Or.inl ⟨?_, ?_⟩) (by assumption) ?_
                rotate_left 2
                focus (simp only [List.getElem?_toArray, List.getElem?_cons_succ, List.getElem?_cons_zero]; rfl)
                focus exact fun _ _ _ h => h
                focus rfl
                focus (intro W hS; (try dsimp only at hS); have q1 := hS.1; have q2 := hS.2.1; go_simp; (try with_reducible rfl))
                try simp only [Act.put]
                try simp only [List.setIfInBounds_toArray]
                try simp only [List.set_cons_succ]
                try simp only [List.set_cons_zero]
                refine wpAnyH_take (i := 7) (oi := ?_) (v := ?_) ?_ (by kernel_rfl) (by kernel_rfl) (by kernel_rfl) ?_ (Or.inl ⟨?_, ?_⟩) (by assumption) ?_
                rotate_left 2
                focus (simp only [List.getElem?_toArray, List.getElem?_cons_succ, List.getElem?_cons_zero]; rfl)
                focus exact fun _ _ _ h => h
                focus rfl
                focus (intro W hS; (try dsimp only at hS); have q1 := hS.1; have q2 := hS.2.1; go_simp; (try with_reducible rfl))
                try simp only [Act.put]
                try simp only [List.setIfInBounds_toArray]
                try simp only [List.set_cons_succ]
                try simp only [List.set_cons_zero]
                refine wpAnyH_take (i := 8) (oi := ?_) (v := ?_) ?_ (by kernel_rfl) (by kernel_rfl) (by kernel_rfl) ?_ (Or.inl ⟨?_, ?_⟩) (by assumption) ?_
                rotate_left 2
                focus (simp only [List.getElem?_toArray, List.getElem?_cons_succ, List.getElem?_cons_zero]; rfl)
                focus exact fun _ _ _ h => h
                focus rfl
                focus (intro W hS; (try dsimp only at hS); have q1 := hS.1; have q2 := hS.2.1; go_simp; (try with_reducible rfl))
                try simp only [Act.put]
                try simp only [List.setIfInBounds_toArray]
                try simp only [List.set_cons_succ]
                try simp only [List.set_cons_zero]
                refine wpAnyH_take (i := 9) (oi := ?_) (v := ?_) ?_ (by kernel_rfl) (by kernel_rfl) (by kernel_rfl) ?_ (Or.inl ⟨?_, ?_⟩) (by assumption) ?_
                rotate_left 2
                focus (simp only [List.getElem?_toArray, List.getElem?_cons_succ, List.getElem?_cons_zero]; rfl)
                focus exact fun _ _ _ h => h
                focus rfl
                focus (intro W hS; (try dsimp only at hS); have q1 := hS.1; have q2 := hS.2.1; go_simp; (try with_reducible rfl))
                try simp only [Act.put]
                try simp only [List.setIfInBounds_toArray]
                try simp only [List.set_cons_succ]
                try simp only [List.set_cons_zero]
                refine wpAnyH_take (i := 10) (oi := ?_) (v := ?_) ?_ (by kernel_rfl) (by kernel_rfl) (by kernel_rfl) ?_ (Or.inl ⟨?_, ?_⟩) (by assumption) ?_
                rotate_left 2
                focus (simp only [List.getElem?_toArray, List.getElem?_cons_succ, List.getElem?_cons_zero]; rfl)
                focus exact fun _ _ _ h => h
                focus rfl
                focus (intro W hS; (try dsimp only at hS); have q1 := hS.1; have q2 := hS.2.1; go_simp; (try with_reducible rfl))
                try simp only [Act.put]
                try simp only [List.setIfInBounds_toArray]
                try simp only [List.set_cons_succ]
                try simp only [List.set_cons_zero]
                refine wpAnyH_take (i := 11) (oi := ?_) (v := ?_) ?_ (by kernel_rfl) (by kernel_rfl) (by kernel_rfl) ?_ (Or.inl ⟨?_, ?_⟩) (by assumption) ?_
                rotate_left 2
                focus (simp only [List.getElem?_toArray, List.getElem?_cons_succ, List.getElem?_cons_zero]; rfl)
                focus exact fun _ _ _ h => h
                focus rfl
                focus (intro W hS; (try dsimp only at hS); have q1 := hS.1; have q2 := hS.2.1; go_simp; (try with_reducible rfl))
                try simp only [Act.put]
                try simp only [List.setIfInBounds_toArray]
                try simp only [List.set_cons_succ]
                try simp only [List.set_cons_zero]
                refine wpAnyH_take (i := 12) (oi := ?_) (v := ?_) ?_ (by kernel_rfl) (by kernel_rfl) (by kernel_rfl) ?_ (Or.inl ⟨?_, ?_⟩) (by assumption) ?_
                rotate_left 2
                focus (simp only [List.getElem?_toArray, List.getElem?_cons_succ, List.getElem?_cons_zero]; rfl)
                focus exact fun _ _ _ h => h
                focus rfl
                focus (intro W hS; (try dsimp only at hS); have q1 := hS.1; have q2 := hS.2.1; go_simp; (try with_reducible rfl))
                try simp only [Act.put]
                try simp only [List.setIfInBounds_toArray]
                try simp only [List.set_cons_succ]
                try simp only [List.set_cons_zero]
                refine wpAnyH_take (i := 13) (oi := ?_) (v := ?_) ?_ (by kernel_rfl) (by kernel_rfl) (by kernel_rfl) ?_ (Or.inl ⟨?_, ?_⟩) (by assumption) ?_
                rotate_left 2
                focus (simp only [List.getElem?_toArray, List.getElem?_cons_succ, List.getElem?_cons_zero]; rfl)
                focus exact fun _ _ _ h => h
                focus rfl
                focus (intro W hS; (try dsimp only at hS); have q1 := hS.1; have q2 := hS.2.1; go_simp; (try with_reducible rfl))
                try simp only [Act.put]
                try simp only [List.setIfInBounds_toArray]
                try simp only [List.set_cons_succ]
                try simp only [List.set_cons_zero]
                refine wpAnyH_take (i := 14) (oi := ?_) (v := ?_) ?_ (by kernel_rfl) (by kernel_rfl) (by kernel_rfl) ?_ (Or.inl ⟨?_, ?_⟩) (by assumption) ?_
                rotate_left 2
                focus (simp only [List.getElem?_toArray, List.getElem?_cons_succ, List.getElem?_cons_zero]; rfl)
                focus exact fun _ _ _ h => h
                focus rfl
                focus (intro W hS; (try dsimp only at hS); have q1 := hS.1; have q2 := hS.2.1; go_simp; (try with_reducible rfl))
                try simp only [Act.put]
                try simp only [List.setIfInBounds_toArray]
                try simp only [List.set_cons_succ]
                try simp only [List.set_cons_zero]
                refine wpAnyH_take (i := 15) (oi := ?_) (v := ?_) ?_ (by kernel_rfl) (by kernel_rfl) (by kernel_rfl) ?_ (Or.inl ⟨?_, ?_⟩) (by assumption) ?_
                rotate_left 2
                focus (simp only [List.getElem?_toArray, List.getElem?_cons_succ, List.getElem?_cons_zero]; rfl)
                focus exact fun _ _ _ h => h
                focus rfl
                focus (intro W hS; (try dsimp only at hS); have q1 := hS.1; have q2 := hS.2.1; go_simp; (try with_reducible rfl))
                try simp only [Act.put]
                try simp only [List.setIfInBounds_toArray]
                try simp only [List.set_cons_succ]
                try simp only [List.set_cons_zero]
                refine wpAnyH_take (i := 16) (oi := ?_) (v := ?_) ?_ (by kernel_rfl) (by kernel_rfl) (by kernel_rfl) ?_ (Or.inl ⟨?_, ?_⟩) (by assumption) ?_
                rotate_left 2
                focus (simp only [List.getElem?_toArray, List.getElem?_cons_succ, List.getElem?_cons_zero]; rfl)
                focus exact fun _ _ _ h => h
                focus rfl
                focus (intro W hS; (try dsimp only at hS); have q1 := hS.1; have q2 := hS.2.1; go_simp; (try with_reducible rfl))
                try simp only [Act.put]
                try simp only [List.setIfInBounds_toArray]
                try simp only [List.set_cons_succ]
                try simp only [List.set_cons_zero]
                refine wpAnyH_ready (rs := [17]) (by kernel_rfl) (by simp) ?_
                refine AllReadyH.cons (o := ?_) ?_ (fun K hK => ?_) AllReadyH.nil
                rotate_left
                focus (simp only [List.getElem?_toArray, List.getElem?_cons_succ, List.getElem?_cons_zero]; rfl)
                rw [if_pos (by rfl)]
                go_simp
                refine (HRE.out _ hHeld.2.2).mono ?_
                rintro e w9 ⟨rfl, hb9⟩
                go_wp2_with fail
                refine hK.out _ _ ⟨stays hb9 hHeld.1, stays hb9 hHeld.2.1, hHeld.2.2.trans (hb9.mono hHeld.2.2.size)⟩ (fun hHeld => ?_)
                clear hK K
                try simp only [Act.put]
                try simp only [List.setIfInBounds_toArray]
                try simp only [List.set_cons_succ]
                try simp only [List.set_cons_zero]
                refine wpAnyH_take (i := 18) (oi := ?_) (v := ?_) ?_ (by kernel_rfl) (by kernel_rfl) (by kernel_rfl) ?_ (Or.inl ⟨?_, ?_⟩) (by assumption) ?_
                rotate_left 2
                focus (simp only [List.getElem?_toArray, List.getElem?_cons_succ, List.getElem?_cons_zero]; rfl)
                focus exact fun _ _ _ h => h
                focus rfl
                focus (intro W hS; (try dsimp only at hS); have q1 := hS.1; have q2 := hS.2.1; go_simp; (try with_reducible rfl))
                try simp only [Act.put]
                try simp only [List.setIfInBounds_toArray]
                try simp only [List.set_cons_succ]
                try simp only [List.set_cons_zero]
                refine wpAnyH_take (i := 19) (oi := ?_) (v := ?_) ?_ (by kernel_rfl) (by kernel_rfl) (by kernel_rfl) ?_ (Or.inl ⟨?_, ?_⟩) (by assumption) ?_
                rotate_left 2
                focus (simp only [List.getElem?_toArray, List.getElem?_cons_succ, List.getElem?_cons_zero]; rfl)
                focus exact fun _ _ _ h => h
                focus rfl
                focus (intro W hS; (try dsimp only at hS); have q1 := hS.1; have q2 := hS.2.1; go_simp; (try with_reducible rfl))
                try simp only [Act.put]
                try simp only [List.setIfInBounds_toArray]
                try simp only [List.set_cons_succ]
                try simp only [List.set_cons_zero]
                refine wpAnyH_take (i := 20) (oi := ?_) (v := ?_) ?_ (by kernel_rfl) (by kernel_rfl) (by kernel_rfl) ?_ (Or.inl ⟨?_, ?_⟩) (by assumption) ?_
                rotate_left 2
                focus (simp only [List.getElem?_toArray, List.getElem?_cons_succ, List.getElem?_cons_zero]; rfl)
                focus exact fun _ _ _ h => h
                focus rfl
                focus (intro W hS; (try dsimp only at hS); have q1 := hS.1; have q2 := hS.2.1; go_simp; (try with_reducible rfl))
                try simp only [Act.put]
                try simp only [List.setIfInBounds_toArray]
                try simp only [List.set_cons_succ]
                try simp only [List.set_cons_zero]
                refine wpAnyH_take (i := 21) (oi := ?_) (v := ?_) ?_ (by kernel_rfl) (by kernel_rfl) (by kernel_rfl) ?_ (Or.inl ⟨?_, ?_⟩) (by assumption) ?_
                rotate_left 2
                focus (simp only [List.getElem?_toArray, List.getElem?_cons_succ, List.getElem?_cons_zero]; rfl)
                focus exact fun _ _ _ h => h
                focus rfl
                focus (intro W hS; (try dsimp only at hS); have q1 := hS.1; have q2 := hS.2.1; go_simp; (try with_reducible rfl))
                try simp only [Act.put]
                try simp only [List.setIfInBounds_toArray]
                try simp only [List.set_cons_succ]
                try simp only [List.set_cons_zero]
                refine wpAnyH_done (by kernel_rfl) ?_ _
                go_wp2_with fail
                go_ret
                exact ⟨by first | rfl | trivial, HC7.out.trans (hHeld.2.2.mono HC7.out.size)⟩
              · have hm0 : m2 = 0 := hiff.2 ⟨hft, hp⟩
                have HRE := Lib.hid (fun W (h : Below w6.heap.size w6 W) => (reach_any (c := c) (HN7.out.below h) (by omega) HD2.out d v.id).mono fun e w' ⟨b, h1, h2, h3⟩ => (show e = Ending.returned (.bool false) ∧ Below W.heap.size W w' from by
                  cases b with
                  | false => exact ⟨h1, h3⟩
                  | true => exact absurd (h2.1 rfl).2 hp))
                clear hiff hp
                subst hm0
                go_wp2_with fail
                refine wp_region_held_drew (S := fun W => W.cell? ⟨b0, q + t * 2, none⟩ = some (.int .u64 d) ∧ W.cell? ⟨b0, q + f * 2, none⟩ = some (.int .u64 v.id) ∧ Below w6.heap.size w6 W) (by kernel_rfl) ⟨ct, cf, (Below.refl _ _).drew⟩ (fun hHeld => ?_)
                refine wpAnyH_take (i := 0) (oi := ?_) (v := ?_) ?_ (by kernel_rfl) (by kernel_rfl) (by kernel_rfl) ?_ (Or.inl ⟨?_, ?_⟩) (by assumption) ?_
                rotate_left 2
                focus (simp only [List.getElem?_toArray, List.getElem?_cons_zero]; rfl)
                focus exact fun _ _ _ h => h
                focus rfl
                focus (intro W hS; (try dsimp only at hS); have q1 := hS.1; have q2 := hS.2.1; go_simp; (try with_reducible rfl))
                try simp only [Act.put]
                try simp only [List.setIfInBounds_toArray]
                try simp only [List.set_cons_succ]
                try simp only [List.set_cons_zero]
                refine wpAnyH_take (i := 1) (oi := ?_) (v := ?_) ?_ (by kernel_rfl) (by kernel_rfl) (by kernel_rfl) ?_ (Or.inl ⟨?_, ?_⟩) (by assumption) ?_
                rotate_left 2
                focus (simp only [List.getElem?_toArray, List.getElem?_cons_succ, List.getElem?_cons_zero]; rfl)
                focus exact fun _ _ _ h => h
                focus rfl
                focus (intro W hS; (try dsimp only at hS); have q1 := hS.1; have q2 := hS.2.1; go_simp; (try with_reducible rfl))
                try simp only [Act.put]
                try simp only [List.setIfInBounds_toArray]
                try simp only [List.set_cons_succ]
                try simp only [List.set_cons_zero]
                refine wpAnyH_take (i := 2) (oi := ?_) (v := ?_) ?_ (by kernel_rfl) (by kernel_rfl) (by kernel_rfl) ?_ (Or.inl ⟨?_, ?_⟩) (by assumption) ?_
                rotate_left 2
                focus (simp only [List.getElem?_toArray, List.getElem?_cons_succ, List.getElem?_cons_zero]; rfl)
                focus exact fun _ _ _ h => h
                focus rfl
                focus (intro W hS; (try dsimp only at hS); have q1 := hS.1; have q2 := hS.2.1; go_simp; (try with_reducible rfl))
                try simp only [Act.put]
                try simp only [List.setIfInBounds_toArray]
                try simp only [List.set_cons_succ]
                try simp only [List.set_cons_zero]
                refine wpAnyH_take (i := 3) (oi := ?_) (v := ?_) ?_ (by kernel_rfl) (by kernel_rfl) (by kernel_rfl) ?_ (Or.inl ⟨?_, ?_⟩) (by assumption) ?_
                rotate_left 2
                focus (simp only [List.getElem?_toArray, List.getElem?_cons_succ, List.getElem?_cons_zero]; rfl)
                focus exact fun _ _ _ h => h
                focus rfl
                focus (intro W hS; (try dsimp only at hS); have q1 := hS.1; have q2 := hS.2.1; go_simp; (try with_reducible rfl))
                try simp only [Act.put]
                try simp only [List.setIfInBounds_toArray]
                try simp only [List.set_cons_succ]
                try simp only [List.set_cons_zero]
                refine wpAnyH_take (i := 4) (oi := ?_) (v := ?_) ?_ (by kernel_rfl) (by kernel_rfl) (by kernel_rfl) ?_ (Or.inl ⟨?_, ?_⟩) (by assumption) ?_
                rotate_left 2
                focus (simp only [List.getElem?_toArray, List.getElem?_cons_succ, List.getElem?_cons_zero]; rfl)
                focus exact fun _ _ _ h => h
                focus rfl
                focus (intro W hS; (try dsimp only at hS); have q1 := hS.1; have q2 := hS.2.1; go_simp; (try with_reducible rfl))
                try simp only [Act.put]
                try simp only [List.setIfInBounds_toArray]
                try simp only [List.set_cons_succ]
                try simp only [List.set_cons_zero]
                refine wpAnyH_take (i := 5) (oi := ?_) (v := ?_) ?_ (by kernel_rfl) (by kernel_rfl) (by kernel_rfl) ?_ (Or.inl ⟨?_, ?_⟩) (by assumption) ?_
                rotate_left 2
                focus (simp only [List.getElem?_toArray, List.getElem?_cons_succ, List.getElem?_cons_zero]; rfl)
                focus exact fun _ _ _ h => h
                focus rfl
                focus (intro W hS; (try dsimp only at hS); have q1 := hS.1; have q2 := hS.2.1; go_simp; (try with_reducible rfl))
                try simp only [Act.put]
                try simp only [List.setIfInBounds_toArray]
                try simp only [List.set_cons_succ]
                try simp only [List.set_cons_zero]
                refine wpAnyH_take (i := 6) (oi := ?_) (v := ?_) ?_ (by kernel_rfl) (by kernel_rfl) (by kernel_rfl) ?_ (Or.inl ⟨?_, ?_⟩) (by assumption) ?_
                rotate_left 2
                focus (simp only [List.getElem?_toArray, List.getElem?_cons_succ, List.getElem?_cons_zero]; rfl)
                focus exact fun _ _ _ h => h
                focus rfl
                focus (intro W hS; (try dsimp only at hS); have q1 := hS.1; have q2 := hS.2.1; go_simp; (try with_reducible rfl))
                try simp only [Act.put]
                try simp only [List.setIfInBounds_toArray]
                try simp only [List.set_cons_succ]
                try simp only [List.set_cons_zero]
                refine wpAnyH_take (i := 7) (oi := ?_) (v := ?_) ?_ (by kernel_rfl) (by kernel_rfl) (by kernel_rfl) ?_ (Or.inl ⟨?_, ?_⟩) (by assumption) ?_
                rotate_left 2
                focus (simp only [List.getElem?_toArray, List.getElem?_cons_succ, List.getElem?_cons_zero]; rfl)
                focus exact fun _ _ _ h => h
                focus rfl
                focus (intro W hS; (try dsimp only at hS); have q1 := hS.1; have q2 := hS.2.1; go_simp; (try with_reducible rfl))
                try simp only [Act.put]
                try simp only [List.setIfInBounds_toArray]
                try simp only [List.set_cons_succ]
                try simp only [List.set_cons_zero]
                refine wpAnyH_take (i := 8) (oi := ?_) (v := ?_) ?_ (by kernel_rfl) (by kernel_rfl) (by kernel_rfl) ?_ (Or.inl ⟨?_, ?_⟩) (by assumption) ?_
                rotate_left 2
                focus (simp only [List.getElem?_toArray, List.getElem?_cons_succ, List.getElem?_cons_zero]; rfl)
                focus exact fun _ _ _ h => h
                focus rfl
                focus (intro W hS; (try dsimp only at hS); have q1 := hS.1; have q2 := hS.2.1; go_simp; (try with_reducible rfl))
                try simp only [Act.put]
                try simp only [List.setIfInBounds_toArray]
                try simp only [List.set_cons_succ]
                try simp only [List.set_cons_zero]
                refine wpAnyH_take (i := 9) (oi := ?_) (v := ?_) ?_ (by kernel_rfl) (by kernel_rfl) (by kernel_rfl) ?_ (Or.inl ⟨?_, ?_⟩) (by assumption) ?_
                rotate_left 2
                focus (simp only [List.getElem?_toArray, List.getElem?_cons_succ, List.getElem?_cons_zero]; rfl)
                focus exact fun _ _ _ h => h
                focus rfl
                focus (intro W hS; (try dsimp only at hS); have q1 := hS.1; have q2 := hS.2.1; go_simp; (try with_reducible rfl))
                try simp only [Act.put]
                try simp only [List.setIfInBounds_toArray]
                try simp only [List.set_cons_succ]
                try simp only [List.set_cons_zero]
                refine wpAnyH_take (i := 10) (oi := ?_) (v := ?_) ?_ (by kernel_rfl) (by kernel_rfl) (by kernel_rfl) ?_ (Or.inl ⟨?_, ?_⟩) (by assumption) ?_
                rotate_left 2
                focus (simp only [List.getElem?_toArray, List.getElem?_cons_succ, List.getElem?_cons_zero]; rfl)
                focus exact fun _ _ _ h => h
                focus rfl
                focus (intro W hS; (try dsimp only at hS); have q1 := hS.1; have q2 := hS.2.1; go_simp; (try with_reducible rfl))
                try simp only [Act.put]
                try simp only [List.setIfInBounds_toArray]
                try simp only [List.set_cons_succ]
                try simp only [List.set_cons_zero]
                refine wpAnyH_take (i := 11) (oi := ?_) (v := ?_) ?_ (by kernel_rfl) (by kernel_rfl) (by kernel_rfl) ?_ (Or.inl ⟨?_, ?_⟩) (by assumption) ?_
                rotate_left 2
                focus (simp only [List.getElem?_toArray, List.getElem?_cons_succ, List.getElem?_cons_zero]; rfl)
                focus exact fun _ _ _ h => h
                focus rfl
                focus (intro W hS; (try dsimp only at hS); have q1 := hS.1; have q2 := hS.2.1; go_simp; (try with_reducible rfl))
                try simp only [Act.put]
                try simp only [List.setIfInBounds_toArray]
                try simp only [List.set_cons_succ]
                try simp only [List.set_cons_zero]
                refine wpAnyH_take (i := 12) (oi := ?_) (v := ?_) ?_ (by kernel_rfl) (by kernel_rfl) (by kernel_rfl) ?_ (Or.inl ⟨?_, ?_⟩) (by assumption) ?_
                rotate_left 2
                focus (simp only [List.getElem?_toArray, List.getElem?_cons_succ, List.getElem?_cons_zero]; rfl)
                focus exact fun _ _ _ h => h
                focus rfl
                focus (intro W hS; (try dsimp only at hS); have q1 := hS.1; have q2 := hS.2.1; go_simp; (try with_reducible rfl))
                try simp only [Act.put]
                try simp only [List.setIfInBounds_toArray]
                try simp only [List.set_cons_succ]
                try simp only [List.set_cons_zero]
                refine wpAnyH_take (i := 13) (oi := ?_) (v := ?_) ?_ (by kernel_rfl) (by kernel_rfl) (by kernel_rfl) ?_ (Or.inl ⟨?_, ?_⟩) (by assumption) ?_
                rotate_left 2
                focus (simp only [List.getElem?_toArray, List.getElem?_cons_succ, List.getElem?_cons_zero]; rfl)
                focus exact fun _ _ _ h => h
                focus rfl
                focus (intro W hS; (try dsimp only at hS); have q1 := hS.1; have q2 := hS.2.1; go_simp; (try with_reducible rfl))
                try simp only [Act.put]
                try simp only [List.setIfInBounds_toArray]
                try simp only [List.set_cons_succ]
                try simp only [List.set_cons_zero]
                refine wpAnyH_take (i := 14) (oi := ?_) (v := ?_) ?_ (by kernel_rfl) (by kernel_rfl) (by kernel_rfl) ?_ (Or.inl ⟨?_, ?_⟩) (by assumption) ?_
                rotate_left 2
                focus (simp only [List.getElem?_toArray, List.getElem?_cons_succ, List.getElem?_cons_zero]; rfl)
                focus exact fun _ _ _ h => h
                focus rfl
                focus (intro W hS; (try dsimp only at hS); have q1 := hS.1; have q2 := hS.2.1; go_simp; (try with_reducible rfl))
                try simp only [Act.put]
                try simp only [List.setIfInBounds_toArray]
                try simp only [List.set_cons_succ]
                try simp only [List.set_cons_zero]
                refine wpAnyH_take (i := 15) (oi := ?_) (v := ?_) ?_ (by kernel_rfl) (by kernel_rfl) (by kernel_rfl) ?_ (Or.inl ⟨?_, ?_⟩) (by assumption) ?_
                rotate_left 2
                focus (simp only [List.getElem?_toArray, List.getElem?_cons_succ, List.getElem?_cons_zero]; rfl)
                focus exact fun _ _ _ h => h
                focus rfl
                focus (intro W hS; (try dsimp only at hS); have q1 := hS.1; have q2 := hS.2.1; go_simp; (try with_reducible rfl))
                try simp only [Act.put]
                try simp only [List.setIfInBounds_toArray]
                try simp only [List.set_cons_succ]
                try simp only [List.set_cons_zero]
                refine wpAnyH_take (i := 16) (oi := ?_) (v := ?_) ?_ (by kernel_rfl) (by kernel_rfl) (by kernel_rfl) ?_ (Or.inl ⟨?_, ?_⟩) (by assumption) ?_
                rotate_left 2
                focus (simp only [List.getElem?_toArray, List.getElem?_cons_succ, List.getElem?_cons_zero]; rfl)
                focus exact fun _ _ _ h => h
                focus rfl
                focus (intro W hS; (try dsimp only at hS); have q1 := hS.1; have q2 := hS.2.1; go_simp; (try with_reducible rfl))
                try simp only [Act.put]
                try simp only [List.setIfInBounds_toArray]
                try simp only [List.set_cons_succ]
                try simp only [List.set_cons_zero]
                refine wpAnyH_ready (rs := [17]) (by kernel_rfl) (by simp) ?_
                refine AllReadyH.cons (o := ?_) ?_ (fun K hK => ?_) AllReadyH.nil
                rotate_left
                focus (simp only [List.getElem?_toArray, List.getElem?_cons_succ, List.getElem?_cons_zero]; rfl)
                rw [if_pos (by rfl)]
                go_simp
                refine (HRE.out _ hHeld.2.2).mono ?_
                rintro e w9 ⟨rfl, hb9⟩
                go_wp2_with fail
                refine hK.out _ _ ⟨stays hb9 hHeld.1, stays hb9 hHeld.2.1, hHeld.2.2.trans (hb9.mono hHeld.2.2.size)⟩ (fun hHeld => ?_)
                clear hK K
                try simp only [Act.put]
                try simp only [List.setIfInBounds_toArray]
                try simp only [List.set_cons_succ]
                try simp only [List.set_cons_zero]
                refine wpAnyH_take (i := 18) (oi := ?_) (v := ?_) ?_ (by kernel_rfl) (by kernel_rfl) (by kernel_rfl) ?_ (Or.inl ⟨?_, ?_⟩) (by assumption) ?_
                rotate_left 2
                focus (simp only [List.getElem?_toArray, List.getElem?_cons_succ, List.getElem?_cons_zero]; rfl)
                focus exact fun _ _ _ h => h
                focus rfl
                focus (intro W hS; (try dsimp only at hS); have q1 := hS.1; have q2 := hS.2.1; go_simp; (try with_reducible rfl))
                try simp only [Act.put]
                try simp only [List.setIfInBounds_toArray]
                try simp only [List.set_cons_succ]
                try simp only [List.set_cons_zero]
                refine wpAnyH_take (i := 19) (oi := ?_) (v := ?_) ?_ (by kernel_rfl) (by kernel_rfl) (by kernel_rfl) ?_ (Or.inl ⟨?_, ?_⟩) (by assumption) ?_
                rotate_left 2
                focus (simp only [List.getElem?_toArray, List.getElem?_cons_succ, List.getElem?_cons_zero]; rfl)
                focus exact fun _ _ _ h => h
                focus rfl
                focus (intro W hS; (try dsimp only at hS); have q1 := hS.1; have q2 := hS.2.1; go_simp; (try with_reducible rfl))
                try simp only [Act.put]
                try simp only [List.setIfInBounds_toArray]
                try simp only [List.set_cons_succ]
                try simp only [List.set_cons_zero]
                refine wpAnyH_take (i := 20) (oi := ?_) (v := ?_) ?_ (by kernel_rfl) (by kernel_rfl) (by kernel_rfl) ?_ (Or.inl ⟨?_, ?_⟩) (by assumption) ?_
                rotate_left 2
                focus (simp only [List.getElem?_toArray, List.getElem?_cons_succ, List.getElem?_cons_zero]; rfl)
                focus exact fun _ _ _ h => h
                focus rfl
                focus (intro W hS; (try dsimp only at hS); have q1 := hS.1; have q2 := hS.2.1; go_simp; (try with_reducible rfl))
                try simp only [Act.put]
                try simp only [List.setIfInBounds_toArray]
                try simp only [List.set_cons_succ]
                try simp only [List.set_cons_zero]
                refine wpAnyH_take (i := 21) (oi := ?_) (v := ?_) ?_ (by kernel_rfl) (by kernel_rfl) (by kernel_rfl) ?_ (Or.inl ⟨?_, ?_⟩) (by assumption) ?_
                rotate_left 2
                focus (simp only [List.getElem?_toArray, List.getElem?_cons_succ, List.getElem?_cons_zero]; rfl)
                focus exact fun _ _ _ h => h
                focus rfl
                focus (intro W hS; (try dsimp only at hS); have q1 := hS.1; have q2 := hS.2.1; go_simp; (try with_reducible rfl))
                try simp only [Act.put]
                try simp only [List.setIfInBounds_toArray]
                try simp only [List.set_cons_succ]
                try simp only [List.set_cons_zero]
                refine wpAnyH_done (by kernel_rfl) ?_ _
                go_wp2_with fail
                go_ret
                exact ⟨by first | rfl | trivial, HC7.out.trans (hHeld.2.2.mono HC7.out.size)⟩
            refine AllReadyH.cons (o := ?_) ?_ (fun K hK => ?_) AllReadyH.nil
            rotate_left
            focus (simp only [List.getElem?_toArray, List.getElem?_cons_succ, List.getElem?_cons_zero]; rfl)
            rw [if_pos (by rfl)]
            go_simp
            have hq := HQ.out.lit d
            obtain ⟨s, hs⟩ : ∃ s, s = u0.heap.size := ⟨_, rfl⟩
            obtain ⟨u1, hu⟩ : ∃ u, u = u0.alloc (.cells #[.int .u64 d] 23) := ⟨_, rfl⟩
            rw [← hu, ← hs] at hq
            rw [← hu, ← hs]
            clear hu hs HQ
            have HQ := Lib.hid hq
            clear hq
            refine hK.out _ _ ⟨HS1.out _ HQ.out.bel, HS2.out _ HQ.out.bel⟩ (fun hHeld => ?_)
            clear hK K
            try simp only [Act.put]
            try simp only [List.setIfInBounds_toArray]
            try simp only [List.set_cons_succ]
            try simp only [List.set_cons_zero]
            refine wpAnyH_ready (rs := [2]) (by kernel_rfl) (by simp) ?_
            refine AllReadyH.cons (o := ?_) ?_ (fun K hK => ?_) AllReadyH.nil
            rotate_left
            focus (simp only [List.getElem?_toArray, List.getElem?_cons_succ, List.getElem?_cons_zero]; rfl)
            rw [if_pos (by rfl)]
            go_simp
            have hq := HQ.out.empty
            obtain ⟨ve, hve⟩ : ∃ v, v = Value.slice (some ⟨u1.heap.size, 0, none⟩) 0 0 := ⟨_, rfl⟩
            obtain ⟨u2, hu⟩ : ∃ u, u = u1.alloc (.cells #[] 23) := ⟨_, rfl⟩
            rw [← hu, ← hve] at hq
            rw [← hu, ← hve]
            clear hu hve HQ
            have HQ := Lib.hid hq
            clear hq
            refine hK.out _ _ ⟨HS1.out _ HQ.out.bel, HS2.out _ HQ.out.bel⟩ (fun hHeld => ?_)
            clear hK K
            try simp only [Act.put]
            try simp only [List.setIfInBounds_toArray]
            try simp only [List.set_cons_succ]
            try simp only [List.set_cons_zero]
            refine wpAnyH_ready (rs := [8]) (by kernel_rfl) (by simp) ?_
            refine AllReadyH.cons (o := ?_) ?_ (fun K hK => ?_) AllReadyH.nil
            rotate_left
            focus (simp only [List.getElem?_toArray, List.getElem?_cons_succ, List.getElem?_cons_zero]; rfl)
            rw [if_pos (by rfl)]
            obtain ⟨vd, u3, hrun, hq⟩ := HQ.out.app (c := v.dc) (by simp) (HVF.out.deps.below HQ.out.bel) (by omega) HNIL.out
            rw [List.nil_append] at hq
            refine wp_append_run13 rfl rfl rfl hrun ?_
            clear hrun HQ
            have HQ := Lib.hid hq
            clear hq
            refine hK.out _ _ ⟨HS1.out _ HQ.out.bel, HS2.out _ HQ.out.bel⟩ (fun hHeld => ?_)
            clear hK K
            try simp only [Act.put]
            try simp only [List.setIfInBounds_toArray]
            try simp only [List.set_cons_succ]
            try simp only [List.set_cons_zero]
            refine wpAnyH_ready (rs := [15]) (by kernel_rfl) (by simp) ?_
            refine AllReadyH.cons (o := ?_) ?_ (fun K hK => ?_) AllReadyH.nil
            rotate_left
            focus (simp only [List.getElem?_toArray, List.getElem?_cons_succ, List.getElem?_cons_zero]; rfl)
            rw [if_pos (by rfl)]
            obtain ⟨vm, u4, hrun, hq⟩ := HQ.out.app1 (by first | omega | (simp; omega)) (s := s) (d := d) (by simp) hdu
            refine wp_append_run13 rfl rfl rfl hrun ?_
            clear hrun HQ
            have HQ := Lib.hid hq
            clear hq
            refine hK.out _ _ ⟨HS1.out _ HQ.out.bel, HS2.out _ HQ.out.bel⟩ (fun hHeld => ?_)
            clear hK K
            try simp only [Act.put]
            try simp only [List.setIfInBounds_toArray]
            try simp only [List.set_cons_succ]
            try simp only [List.set_cons_zero]
            refine wpAnyH_take (i := 16) (oi := ?_) (v := ?_) ?_ (by kernel_rfl) (by kernel_rfl) (by kernel_rfl) ?_ (Or.inl ⟨?_, ?_⟩) (by assumption) ?_
            rotate_left 2
            focus (simp only [List.getElem?_toArray, List.getElem?_cons_succ, List.getElem?_cons_zero]; rfl)
            focus exact fun _ _ _ h => h
            focus rfl
            focus (intro W hS; (try dsimp only at hS); have q1 := hS.1; have q2 := hS.2; go_simp; (try with_reducible rfl))
            try simp only [Act.put]
            try simp only [List.setIfInBounds_toArray]
            try simp only [List.set_cons_succ]
            try simp only [List.set_cons_zero]
            refine wpAnyH_take (i := 17) (oi := ?_) (v := ?_) ?_ (by kernel_rfl) (by kernel_rfl) (by kernel_rfl) ?_ (Or.inl ⟨?_, ?_⟩) (by assumption) ?_
            rotate_left 2
            focus (simp only [List.getElem?_toArray, List.getElem?_cons_succ, List.getElem?_cons_zero]; rfl)
            focus exact fun _ _ _ h => h
            focus rfl
            focus (intro W hS; (try dsimp only at hS); have q1 := hS.1; have q2 := hS.2; go_simp; (try with_reducible rfl))
            try simp only [Act.put]
            try simp only [List.setIfInBounds_toArray]
            try simp only [List.set_cons_succ]
            try simp only [List.set_cons_zero]
            refine wpAnyH_ready (rs := [18]) (by kernel_rfl) (by simp) ?_
            refine AllReadyH.cons (o := ?_) ?_ (fun K hK => ?_) AllReadyH.nil
            rotate_left
            focus (simp only [List.getElem?_toArray, List.getElem?_cons_succ, List.getElem?_cons_zero]; rfl)
            rw [if_pos (by rfl)]
            obtain ⟨ma, mc, rfl⟩ := HQ.out.row.shape
            have hcp := HCP.out.same (HQ.out.bel.block _ HCP.out.lt)
            obtain ⟨x1, x2⟩ := hcp.at_ (j := f * 2 + 1) (by omega)
            rw [(flatN_at hfl).2] at x1
            go_simp
            obtain ⟨hn5, hb5⟩ := more_nodes HCP.out HQ.out HB5.out HEA.out hfl HVV.out hdu hgB
            refine hK.out _ _ ⟨(World.cell?_of_block (w := u4) (a := ⟨b0, q + f * 2 + 1, none⟩) (Below.heap_setCell _ _ _ _ hbg)).trans (HS1.out _ HQ.out.bel), (World.cell?_of_block (w := u4) (a := ⟨b0, q + t * 2, none⟩) (Below.heap_setCell _ _ _ _ hbg)).trans (HS2.out _ HQ.out.bel)⟩ (fun hHeld => ?_)
            clear hK K
            try simp only [Act.put]
            try simp only [List.setIfInBounds_toArray]
            try simp only [List.set_cons_succ]
            try simp only [List.set_cons_zero]
            refine wpAnyH_done (by kernel_rfl) ?_ _
            rw [show (v.deps ++ [d]).length = v.deps.length + 1 by simp] at hn5 hb5
            obtain ⟨w5, hw5⟩ : ∃ w5, w5 = u4.setCell ⟨g2, f * 2 + 1, none⟩ (.slice ma (v.deps.length + 1) mc) := ⟨_, rfl⟩
            rw [← hw5] at hn5 hb5
            rw [← hw5]
            have hmo := may_any (c := cap) hn5 (by simp; omega) (HDL5.out ma mc)
            rw [List.length_set, rowOf_set l hfl ⟨v.id, ma, mc, v.deps ++ [d]⟩ d (by rw [HVV.out]) (by rw [HVV.out])] at hmo
            rw [HM2.out] at hmo
            have HMO := Lib.hid hmo
            have HB6 := Lib.hid hb5
            clear hn5 hb5 hw5 hmo hHeld HQ HS1 HS2 HVF HCP x1 x2 hcp
            go_wp2_with fail
            refine HMO.out.mono ?_
            rintro e w6 ⟨rfl, hb6⟩
            have HB7 := Lib.hid (HB6.out.trans (hb6.mono HB6.out.size))
            clear HMO HB6 hb6
            have HC7 := Lib.hid (HCD.out.trans (HB7.out.mono HCD.out.size))
            have HN7 := Lib.hid (HND.out.below HB7.out)
            have ct : w6.cell? ⟨b0, q + t * 2, none⟩ = some (.int .u64 d) := by
              obtain ⟨_, h, _⟩ := HCC.out t htl
              rw [HDD.out] at h
              exact stays HB7.out h
            have cf : w6.cell? ⟨b0, q + f * 2, none⟩ = some (.int .u64 v.id) := by
              obtain ⟨_, h, _⟩ := HCC.out f hfl
              rw [HVV.out] at h
              exact stays HB7.out h
            by_cases hm3 : m2 = 3
            · subst hm3
              go_wp2_with fail
              go_ret
              exact ⟨by first | rfl | trivial, HC7.out⟩
            by_cases hm130 : m2 = 130
            · subst hm130
              go_wp2_with fail
              go_ret
              exact ⟨by first | rfl | trivial, HC7.out⟩
            have hiff := HIFF.out hm3 hm130
            have hm3b : (m2 == 3) = false := by simpa using hm3
            have hm130b : (m2 == 130) = false := by simpa using hm130
            by_cases hft : f = t
            · subst hft
              have hm0 : ¬ m2 = 0 := fun h => (hiff.1 h).1 rfl
              have hm0b : (m2 == 0) = false := by simpa using hm0
              clear hiff
              go_wp2_with fail
              clear ct cf
              refine wp_region_held_drew (S := fun W => Below w6.heap.size w6 W ∧ True) (by kernel_rfl) ⟨(Below.refl _ _).drew, trivial⟩ (fun hHeld => ?_)
              refine wpAnyH_take (i := 0) (oi := ?_) (v := ?_) ?_ (by kernel_rfl) (by kernel_rfl) (by kernel_rfl) ?_ (Or.inl ⟨?_, ?_⟩) (by assumption) ?_
              rotate_left 2
              focus (simp only [List.getElem?_toArray, List.getElem?_cons_zero]; rfl)
              focus exact fun _ _ _ h => h
              focus rfl
              focus (intro W hS; (try dsimp only at hS); have q1 := hS.1; have q2 := hS.2; go_simp; (try with_reducible rfl))
              try simp only [Act.put]
              try simp only [List.setIfInBounds_toArray]
              try simp only [List.set_cons_succ]
              try simp only [List.set_cons_zero]
              refine wpAnyH_take (i := 1) (oi := ?_) (v := ?_) ?_ (by kernel_rfl) (by kernel_rfl) (by kernel_rfl) ?_ (Or.inl ⟨?_, ?_⟩) (by assumption) ?_
              rotate_left 2
              focus (simp only [List.getElem?_toArray, List.getElem?_cons_succ, List.getElem?_cons_zero]; rfl)
              focus exact fun _ _ _ h => h
              focus rfl
              focus (intro W hS; (try dsimp only at hS); have q1 := hS.1; have q2 := hS.2; go_simp; (try with_reducible rfl))
              try simp only [Act.put]
              try simp only [List.setIfInBounds_toArray]
              try simp only [List.set_cons_succ]
              try simp only [List.set_cons_zero]
              refine wpAnyH_take (i := 2) (oi := ?_) (v := ?_) ?_ (by kernel_rfl) (by kernel_rfl) (by kernel_rfl) ?_ (Or.inl ⟨?_, ?_⟩) (by assumption) ?_
              rotate_left 2
              focus (simp only [List.getElem?_toArray, List.getElem?_cons_succ, List.getElem?_cons_zero]; rfl)
              focus exact fun _ _ _ h => h
              focus rfl
              focus (intro W hS; (try dsimp only at hS); have q1 := hS.1; have q2 := hS.2; go_simp; (try with_reducible rfl))
              try simp only [Act.put]
              try simp only [List.setIfInBounds_toArray]
              try simp only [List.set_cons_succ]
              try simp only [List.set_cons_zero]
              refine wpAnyH_take (i := 3) (oi := ?_) (v := ?_) ?_ (by kernel_rfl) (by kernel_rfl) (by kernel_rfl) ?_ (Or.inl ⟨?_, ?_⟩) (by assumption) ?_
              rotate_left 2
              focus (simp only [List.getElem?_toArray, List.getElem?_cons_succ, List.getElem?_cons_zero]; rfl)
              focus exact fun _ _ _ h => h
              focus rfl
              focus (intro W hS; (try dsimp only at hS); have q1 := hS.1; have q2 := hS.2; go_simp; (try with_reducible rfl))
              try simp only [Act.put]
              try simp only [List.setIfInBounds_toArray]
              try simp only [List.set_cons_succ]
              try simp only [List.set_cons_zero]
              refine wpAnyH_take (i := 4) (oi := ?_) (v := ?_) ?_ (by kernel_rfl) (by kernel_rfl) (by kernel_rfl) ?_ (Or.inl ⟨?_, ?_⟩) (by assumption) ?_
              rotate_left 2
              focus (simp only [List.getElem?_toArray, List.getElem?_cons_succ, List.getElem?_cons_zero]; rfl)
              focus exact fun _ _ _ h => h
              focus rfl
              focus (intro W hS; (try dsimp only at hS); have q1 := hS.1; have q2 := hS.2; go_simp; (try with_reducible rfl))
              try simp only [Act.put]
              try simp only [List.setIfInBounds_toArray]
              try simp only [List.set_cons_succ]
              try simp only [List.set_cons_zero]
              refine wpAnyH_take (i := 5) (oi := ?_) (v := ?_) ?_ (by kernel_rfl) (by kernel_rfl) (by kernel_rfl) ?_ (Or.inl ⟨?_, ?_⟩) (by assumption) ?_
              rotate_left 2
              focus (simp only [List.getElem?_toArray, List.getElem?_cons_succ, List.getElem?_cons_zero]; rfl)
              focus exact fun _ _ _ h => h
              focus rfl
              focus (intro W hS; (try dsimp only at hS); have q1 := hS.1; have q2 := hS.2; go_simp; (try with_reducible rfl))
              try simp only [Act.put]
              try simp only [List.setIfInBounds_toArray]
              try simp only [List.set_cons_succ]
              try simp only [List.set_cons_zero]
              refine wpAnyH_take (i := 6) (oi := ?_) (v := ?_) ?_ (by kernel_rfl) (by kernel_rfl) (by kernel_rfl) ?_ (Or.inr ⟨?_, ?_⟩) (by assumption) ?_
              rotate_left 2
              focus (simp only [List.getElem?_toArray, List.getElem?_cons_succ, List.getElem?_cons_zero]; rfl)
              focus exact fun _ _ _ h => h
              focus rfl
              focus rfl
              try simp only [Act.put]
              try simp only [List.setIfInBounds_toArray]
              try simp only [List.set_cons_succ]
              try simp only [List.set_cons_zero]
              refine wpAnyH_take (i := 7) (oi := ?_) (v := ?_) ?_ (by kernel_rfl) (by kernel_rfl) (by kernel_rfl) ?_ (Or.inr ⟨?_, ?_⟩) (by assumption) ?_
              rotate_left 2
              focus (simp only [List.getElem?_toArray, List.getElem?_cons_succ, List.getElem?_cons_zero]; rfl)
              focus exact fun _ _ _ h => h
              focus rfl
              focus rfl
              try simp only [Act.put]
              try simp only [List.setIfInBounds_toArray]
              try simp only [List.set_cons_succ]
              try simp only [List.set_cons_zero]
              refine wpAnyH_take (i := 8) (oi := ?_) (v := ?_) ?_ (by kernel_rfl) (by kernel_rfl) (by kernel_rfl) ?_ (Or.inr ⟨?_, ?_⟩) (by assumption) ?_
              rotate_left 2
              focus (simp only [List.getElem?_toArray, List.getElem?_cons_succ, List.getElem?_cons_zero]; rfl)
              focus exact fun _ _ _ h => h
              focus rfl
              focus rfl
              try simp only [Act.put]
              try simp only [List.setIfInBounds_toArray]
              try simp only [List.set_cons_succ]
              try simp only [List.set_cons_zero]
              refine wpAnyH_take (i := 9) (oi := ?_) (v := ?_) ?_ (by kernel_rfl) (by kernel_rfl) (by kernel_rfl) ?_ (Or.inr ⟨?_, ?_⟩) (by assumption) ?_
              rotate_left 2
              focus (simp only [List.getElem?_toArray, List.getElem?_cons_succ, List.getElem?_cons_zero]; rfl)
              focus exact fun _ _ _ h => h
              focus rfl
              focus rfl
              try simp only [Act.put]
              try simp only [List.setIfInBounds_toArray]
              try simp only [List.set_cons_succ]
              try simp only [List.set_cons_zero]
              refine wpAnyH_take (i := 10) (oi := ?_) (v := ?_) ?_ (by kernel_rfl) (by kernel_rfl) (by kernel_rfl) ?_ (Or.inr ⟨?_, ?_⟩) (by assumption) ?_
              rotate_left 2
              focus (simp only [List.getElem?_toArray, List.getElem?_cons_succ, List.getElem?_cons_zero]; rfl)
              focus exact fun _ _ _ h => h
              focus rfl
              focus rfl
              try simp only [Act.put]
              try simp only [List.setIfInBounds_toArray]
              try simp only [List.set_cons_succ]
              try simp only [List.set_cons_zero]
              refine wpAnyH_take (i := 11) (oi := ?_) (v := ?_) ?_ (by kernel_rfl) (by kernel_rfl) (by kernel_rfl) ?_ (Or.inr ⟨?_, ?_⟩) (by assumption) ?_
              rotate_left 2
              focus (simp only [List.getElem?_toArray, List.getElem?_cons_succ, List.getElem?_cons_zero]; rfl)
              focus exact fun _ _ _ h => h
              focus rfl
              focus rfl
              try simp only [Act.put]
              try simp only [List.setIfInBounds_toArray]
              try simp only [List.set_cons_succ]
              try simp only [List.set_cons_zero]
              refine wpAnyH_take (i := 12) (oi := ?_) (v := ?_) ?_ (by kernel_rfl) (by kernel_rfl) (by kernel_rfl) ?_ (Or.inr ⟨?_, ?_⟩) (by assumption) ?_
              rotate_left 2
              focus (simp only [List.getElem?_toArray, List.getElem?_cons_succ, List.getElem?_cons_zero]; rfl)
              focus exact fun _ _ _ h => h
              focus rfl
              focus rfl
              try simp only [Act.put]
              try simp only [List.setIfInBounds_toArray]
              try simp only [List.set_cons_succ]
              try simp only [List.set_cons_zero]
              refine wpAnyH_take (i := 13) (oi := ?_) (v := ?_) ?_ (by kernel_rfl) (by kernel_rfl) (by kernel_rfl) ?_ (Or.inr ⟨?_, ?_⟩) (by assumption) ?_
              rotate_left 2
              focus (simp only [List.getElem?_toArray, List.getElem?_cons_succ, List.getElem?_cons_zero]; rfl)
              focus exact fun _ _ _ h => h
              focus rfl
              focus rfl
              try simp only [Act.put]
              try simp only [List.setIfInBounds_toArray]
              try simp only [List.set_cons_succ]
              try simp only [List.set_cons_zero]
              refine wpAnyH_take (i := 14) (oi := ?_) (v := ?_) ?_ (by kernel_rfl) (by kernel_rfl) (by kernel_rfl) ?_ (Or.inr ⟨?_, ?_⟩) (by assumption) ?_
              rotate_left 2
              focus (simp only [List.getElem?_toArray, List.getElem?_cons_succ, List.getElem?_cons_zero]; rfl)
              focus exact fun _ _ _ h => h
              focus rfl
              focus rfl
              try simp only [Act.put]
              try simp only [List.setIfInBounds_toArray]
              try simp only [List.set_cons_succ]
              try simp only [List.set_cons_zero]
              refine wpAnyH_take (i := 15) (oi := ?_) (v := ?_) ?_ (by kernel_rfl) (by kernel_rfl) (by kernel_rfl) ?_ (Or.inr ⟨?_, ?_⟩) (by assumption) ?_
              rotate_left 2
              focus (simp only [List.getElem?_toArray, List.getElem?_cons_succ, List.getElem?_cons_zero]; rfl)
              focus exact fun _ _ _ h => h
              focus rfl
              focus rfl
              try simp only [Act.put]
              try simp only [List.setIfInBounds_toArray]
              try simp only [List.set_cons_succ]
              try simp only [List.set_cons_zero]
              refine wpAnyH_take (i := 16) (oi := ?_) (v := ?_) ?_ (by kernel_rfl) (by kernel_rfl) (by kernel_rfl) ?_ (Or.inr ⟨?_, ?_⟩) (by assumption) ?_
              rotate_left 2
              focus (simp only [List.getElem?_toArray, List.getElem?_cons_succ, List.getElem?_cons_zero]; rfl)
              focus exact fun _ _ _ h => h
              focus rfl
              focus rfl
              try simp only [Act.put]
              try simp only [List.setIfInBounds_toArray]
              try simp only [List.set_cons_succ]
              try simp only [List.set_cons_zero]
              refine wpAnyH_take (i := 17) (oi := ?_) (v := ?_) ?_ (by kernel_rfl) (by kernel_rfl) (by kernel_rfl) ?_ (Or.inr ⟨?_, ?_⟩) (by assumption) ?_
              rotate_left 2
              focus (simp only [List.getElem?_toArray, List.getElem?_cons_succ, List.getElem?_cons_zero]; rfl)
              focus exact fun _ _ _ h => h
              focus rfl
              focus rfl
              try simp only [Act.put]
              try simp only [List.setIfInBounds_toArray]
              try simp only [List.set_cons_succ]
              try simp only [List.set_cons_zero]
              refine wpAnyH_take (i := 18) (oi := ?_) (v := ?_) ?_ (by kernel_rfl) (by kernel_rfl) (by kernel_rfl) ?_ (Or.inr ⟨?_, ?_⟩) (by assumption) ?_
              rotate_left 2
              focus (simp only [List.getElem?_toArray, List.getElem?_cons_succ, List.getElem?_cons_zero]; rfl)
              focus exact fun _ _ _ h => h
              focus rfl
              focus rfl
              try simp only [Act.put]
              try simp only [List.setIfInBounds_toArray]
              try simp only [List.set_cons_succ]
              try simp only [List.set_cons_zero]
              refine wpAnyH_take (i := 19) (oi := ?_) (v := ?_) ?_ (by kernel_rfl) (by kernel_rfl) (by kernel_rfl) ?_ (Or.inl ⟨?_, ?_⟩) (by assumption) ?_
              rotate_left 2
              focus (simp only [List.getElem?_toArray, List.getElem?_cons_succ, List.getElem?_cons_zero]; rfl)
              focus exact fun _ _ _ h => h
              focus rfl
              focus (intro W hS; (try dsimp only at hS); have q1 := hS.1; have q2 := hS.2; go_simp; (try with_reducible rfl))
              try simp only [Act.put]
              try simp only [List.setIfInBounds_toArray]
              try simp only [List.set_cons_succ]
              try simp only [List.set_cons_zero]
              refine wpAnyH_take (i := 20) (oi := ?_) (v := ?_) ?_ (by kernel_rfl) (by kernel_rfl) (by kernel_rfl) ?_ (Or.inl ⟨?_, ?_⟩) (by assumption) ?_
              rotate_left 2
              focus (simp only [List.getElem?_toArray, List.getElem?_cons_succ, List.getElem?_cons_zero]; rfl)
              focus exact fun _ _ _ h => h
              focus rfl
              focus (intro W hS; (try dsimp only at hS); have q1 := hS.1; have q2 := hS.2; go_simp; (try with_reducible rfl))
              try simp only [Act.put]
              try simp only [List.setIfInBounds_toArray]
              try simp only [List.set_cons_succ]
              try simp only [List.set_cons_zero]
              refine wpAnyH_take (i := 21) (oi := ?_) (v := ?_) ?_ (by kernel_rfl) (by kernel_rfl) (by kernel_rfl) ?_ (Or.inl ⟨?_, ?_⟩) (by assumption) ?_
              rotate_left 2
              focus (simp only [List.getElem?_toArray, List.getElem?_cons_succ, List.getElem?_cons_zero]; rfl)
              focus exact fun _ _ _ h => h
              focus rfl
              focus (intro W hS; (try dsimp only at hS); have q1 := hS.1; have q2 := hS.2; go_simp; (try with_reducible rfl))
              try simp only [Act.put]
              try simp only [List.setIfInBounds_toArray]
              try simp only [List.set_cons_succ]
              try simp only [List.set_cons_zero]
              refine wpAnyH_done (by kernel_rfl) ?_ _
              go_wp2_with fail
              go_ret
              exact ⟨by first | rfl | trivial, HC7.out.drew⟩
            have hne1 : ((f : Int) == (t : Int)) = false := by simp; omega
            have hne2 : (f == t) = false := by simpa using hft
            have hne3 : ((f : Int) != (t : Int)) = true := by simp; omega
            by_cases hp : Path (rowOf l) d v.id
            · have hm0 : ¬ m2 = 0 := fun h => (hiff.1 h).2 hp
              have hm0b : (m2 == 0) = false := by simpa using hm0
              have HRE := Lib.hid (fun W (h : Below w6.heap.size w6 W) => (reach_any (c := c) (HN7.out.below h) (by omega) HD2.out d v.id).mono fun e w' ⟨b, h1, h2, h3⟩ => (show e = Ending.returned (.bool true) ∧ Below W.heap.size W w' from by
                obtain rfl : b = true := h2.2 ⟨h64, hp⟩
                exact ⟨h1, h3⟩))
              clear hiff hp
              go_wp2_with fail
              refine wp_region_held_drew (S := fun W => W.cell? ⟨b0, q + t * 2, none⟩ = some (.int .u64 d) ∧ W.cell? ⟨b0, q + f * 2, none⟩ = some (.int .u64 v.id) ∧ Below w6.heap.size w6 W) (by kernel_rfl) ⟨ct, cf, (Below.refl _ _).drew⟩ (fun hHeld => ?_)
              refine wpAnyH_take (i := 0) (oi := ?_) (v := ?_) ?_ (by kernel_rfl) (by kernel_rfl) (by kernel_rfl) ?_ (Or.inl ⟨?_, ?_⟩) (by assumption) ?_
              rotate_left 2
              focus (simp only [List.getElem?_toArray, List.getElem?_cons_zero]; rfl)
              focus exact fun _ _ _ h => h
              focus rfl
              focus (intro W hS; (try dsimp only at hS); have q1 := hS.1; have q2 := hS.2.1; go_simp; (try with_reducible rfl))
              try simp only [Act.put]
              try simp only [List.setIfInBounds_toArray]
              try simp only [List.set_cons_succ]
              try simp only [List.set_cons_zero]
              refine wpAnyH_take (i := 1) (oi := ?_) (v := ?_) ?_ (by kernel_rfl) (by kernel_rfl) (by kernel_rfl) ?_ (Or.inl ⟨?_, ?_⟩) (by assumption) ?_
              rotate_left 2
              focus (simp only [List.getElem?_toArray, List.getElem?_cons_succ, List.getElem?_cons_zero]; rfl)
              focus exact fun _ _ _ h => h
              focus rfl
              focus (intro W hS; (try dsimp only at hS); have q1 := hS.1; have q2 := hS.2.1; go_simp; (try with_reducible rfl))
              try simp only [Act.put]
              try simp only [List.setIfInBounds_toArray]
              try simp only [List.set_cons_succ]
              try simp only [List.set_cons_zero]
              refine wpAnyH_take (i := 2) (oi := ?_) (v := ?_) ?_ (by kernel_rfl) (by kernel_rfl) (by kernel_rfl) ?_ (Or.inl ⟨?_, ?_⟩) (by assumption) ?_
              rotate_left 2
              focus (simp only [List.getElem?_toArray, List.getElem?_cons_succ, List.getElem?_cons_zero]; rfl)
              focus exact fun _ _ _ h => h
              focus rfl
              focus (intro W hS; (try dsimp only at hS); have q1 := hS.1; have q2 := hS.2.1; go_simp; (try with_reducible rfl))
              try simp only [Act.put]
              try simp only [List.setIfInBounds_toArray]
              try simp only [List.set_cons_succ]
              try simp only [List.set_cons_zero]
              refine wpAnyH_take (i := 3) (oi := ?_) (v := ?_) ?_ (by kernel_rfl) (by kernel_rfl) (by kernel_rfl) ?_ (Or.inl ⟨?_, ?_⟩) (by assumption) ?_
              rotate_left 2
              focus (simp only [List.getElem?_toArray, List.getElem?_cons_succ, List.getElem?_cons_zero]; rfl)
              focus exact fun _ _ _ h => h
              focus rfl
              focus (intro W hS; (try dsimp only at hS); have q1 := hS.1; have q2 := hS.2.1; go_simp; (try with_reducible rfl))
              try simp only [Act.put]
              try simp only [List.setIfInBounds_toArray]
              try simp only [List.set_cons_succ]
              try simp only [List.set_cons_zero]
              refine wpAnyH_take (i := 4) (oi := ?_) (v := ?_) ?_ (by kernel_rfl) (by kernel_rfl) (by kernel_rfl) ?_ (Or.inl ⟨?_, ?_⟩) (by assumption) ?_
              rotate_left 2
              focus (simp only [List.getElem?_toArray, List.getElem?_cons_succ, List.getElem?_cons_zero]; rfl)
              focus exact fun _ _ _ h => h
              focus rfl
              focus (intro W hS; (try dsimp only at hS); have q1 := hS.1; have q2 := hS.2.1; go_simp; (try with_reducible rfl))
              try simp only [Act.put]
              try simp only [List.setIfInBounds_toArray]
              try simp only [List.set_cons_succ]
              try simp only [List.set_cons_zero]
              refine wpAnyH_take (i := 5) (oi := ?_) (v := ?_) ?_ (by kernel_rfl) (by kernel_rfl) (by kernel_rfl) ?_ (Or.inl ⟨?_, ?_⟩) (by assumption) ?_
              rotate_left 2
              focus (simp only [List.getElem?_toArray, List.getElem?_cons_succ, List.getElem?_cons_zero]; rfl)
              focus exact fun _ _ _ h => h
              focus rfl
              focus (intro W hS; (try dsimp only at hS); have q1 := hS.1; have q2 := hS.2.1; go_simp; (try with_reducible rfl))
              try simp only [Act.put]
              try simp only [List.setIfInBounds_toArray]
              try simp only [List.set_cons_succ]
              try simp only [List.set_cons_zero]
              refine wpAnyH_take (i := 6) (oi := ?_) (v := ?_) ?_ (by kernel_rfl) (by kernel_rfl) (by kernel_rfl) ?_ (Or.inl ⟨?_, ?_⟩) (by assumption) ?_
              rotate_left 2
              focus (simp only [List.getElem?_toArray, List.getElem?_cons_succ, List.getElem?_cons_zero]; rfl)
              focus exact fun _ _ _ h => h
              focus rfl
              focus (intro W hS; (try dsimp only at hS); have q1 := hS.1; have q2 := hS.2.1; go_simp; (try with_reducible rfl))
              try simp only [Act.put]
              try simp only [List.setIfInBounds_toArray]
              try simp only [List.set_cons_succ]
              try simp only [List.set_cons_zero]
              refine wpAnyH_take (i := 7) (oi := ?_) (v := ?_) ?_ (by kernel_rfl) (by kernel_rfl) (by kernel_rfl) ?_ (Or.inl ⟨?_, ?_⟩) (by assumption) ?_
              rotate_left 2
              focus (simp only [List.getElem?_toArray, List.getElem?_cons_succ, List.getElem?_cons_zero]; rfl)
              focus exact fun _ _ _ h => h
              focus rfl
              focus (intro W hS; (try dsimp only at hS); have q1 := hS.1; have q2 := hS.2.1; go_simp; (try with_reducible rfl))
              try simp only [Act.put]
              try simp only [List.setIfInBounds_toArray]
              try simp only [List.set_cons_succ]
              try simp only [List.set_cons_zero]
              refine wpAnyH_take (i := 8) (oi := ?_) (v := ?_) ?_ (by kernel_rfl) (by kernel_rfl) (by kernel_rfl) ?_ (Or.inl ⟨?_, ?_⟩) (by assumption) ?_
              rotate_left 2
              focus (simp only [List.getElem?_toArray, List.getElem?_cons_succ, List.getElem?_cons_zero]; rfl)
              focus exact fun _ _ _ h => h
              focus rfl
              focus (intro W hS; (try dsimp only at hS); have q1 := hS.1; have q2 := hS.2.1; go_simp; (try with_reducible rfl))
              try simp only [Act.put]
              try simp only [List.setIfInBounds_toArray]
              try simp only [List.set_cons_succ]
              try simp only [List.set_cons_zero]
              refine wpAnyH_take (i := 9) (oi := ?_) (v := ?_) ?_ (by kernel_rfl) (by kernel_rfl) (by kernel_rfl) ?_ (Or.inl ⟨?_, ?_⟩) (by assumption) ?_
              rotate_left 2
              focus (simp only [List.getElem?_toArray, List.getElem?_cons_succ, List.getElem?_cons_zero]; rfl)
              focus exact fun _ _ _ h => h
              focus rfl
              focus (intro W hS; (try dsimp only at hS); have q1 := hS.1; have q2 := hS.2.1; go_simp; (try with_reducible rfl))
              try simp only [Act.put]
              try simp only [List.setIfInBounds_toArray]
              try simp only [List.set_cons_succ]
              try simp only [List.set_cons_zero]
              refine wpAnyH_take (i := 10) (oi := ?_) (v := ?_) ?_ (by kernel_rfl) (by kernel_rfl) (by kernel_rfl) ?_ (Or.inl ⟨?_, ?_⟩) (by assumption) ?_
              rotate_left 2
              focus (simp only [List.getElem?_toArray, List.getElem?_cons_succ, List.getElem?_cons_zero]; rfl)
              focus exact fun _ _ _ h => h
              focus rfl
              focus (intro W hS; (try dsimp only at hS); have q1 := hS.1; have q2 := hS.2.1; go_simp; (try with_reducible rfl))
              try simp only [Act.put]
              try simp only [List.setIfInBounds_toArray]
              try simp only [List.set_cons_succ]
              try simp only [List.set_cons_zero]
              refine wpAnyH_take (i := 11) (oi := ?_) (v := ?_) ?_ (by kernel_rfl) (by kernel_rfl) (by kernel_rfl) ?_ (Or.inl ⟨?_, ?_⟩) (by assumption) ?_
              rotate_left 2
              focus (simp only [List.getElem?_toArray, List.getElem?_cons_succ, List.getElem?_cons_zero]; rfl)
              focus exact fun _ _ _ h => h
              focus rfl
              focus (intro W hS; (try dsimp only at hS); have q1 := hS.1; have q2 := hS.2.1; go_simp; (try with_reducible rfl))
              try simp only [Act.put]
              try simp only [List.setIfInBounds_toArray]
              try simp only [List.set_cons_succ]
              try simp only [List.set_cons_zero]
              refine wpAnyH_take (i := 12) (oi := ?_) (v := ?_) ?_ (by kernel_rfl) (by kernel_rfl) (by kernel_rfl) ?_ (Or.inl ⟨?_, ?_⟩) (by assumption) ?_
              rotate_left 2
              focus (simp only [List.getElem?_toArray, List.getElem?_cons_succ, List.getElem?_cons_zero]; rfl)
              focus exact fun _ _ _ h => h
              focus rfl
              focus (intro W hS; (try dsimp only at hS); have q1 := hS.1; have q2 := hS.2.1; go_simp; (try with_reducible rfl))
              try simp only [Act.put]
              try simp only [List.setIfInBounds_toArray]
              try simp only [List.set_cons_succ]
              try simp only [List.set_cons_zero]
              refine wpAnyH_take (i := 13) (oi := ?_) (v := ?_) ?_ (by kernel_rfl) (by kernel_rfl) (by kernel_rfl) ?_ (Or.inl ⟨?_, ?_⟩) (by assumption) ?_
              rotate_left 2
              focus (simp only [List.getElem?_toArray, List.getElem?_cons_succ, List.getElem?_cons_zero]; rfl)
              focus exact fun _ _ _ h => h
              focus rfl
              focus (intro W hS; (try dsimp only at hS); have q1 := hS.1; have q2 := hS.2.1; go_simp; (try with_reducible rfl))
              try simp only [Act.put]
              try simp only [List.setIfInBounds_toArray]
              try simp only [List.set_cons_succ]
              try simp only [List.set_cons_zero]
              refine wpAnyH_take (i := 14) (oi := ?_) (v := ?_) ?_ (by kernel_rfl) (by kernel_rfl) (by kernel_rfl) ?_ (Or.inl ⟨?_, ?_⟩) (by assumption) ?_
              rotate_left 2
              focus (simp only [List.getElem?_toArray, List.getElem?_cons_succ, List.getElem?_cons_zero]; rfl)
              focus exact fun _ _ _ h => h
              focus rfl
              focus (intro W hS; (try dsimp only at hS); have q1 := hS.1; have q2 := hS.2.1; go_simp; (try with_reducible rfl))
              try simp only [Act.put]
              try simp only [List.setIfInBounds_toArray]
              try simp only [List.set_cons_succ]
              try simp only [List.set_cons_zero]
              refine wpAnyH_take (i := 15) (oi := ?_) (v := ?_) ?_ (by kernel_rfl) (by kernel_rfl) (by kernel_rfl) ?_ (Or.inl ⟨?_, ?_⟩) (by assumption) ?_
              rotate_left 2
              focus (simp only [List.getElem?_toArray, List.getElem?_cons_succ, List.getElem?_cons_zero]; rfl)
              focus exact fun _ _ _ h => h
              focus rfl
              focus (intro W hS; (try dsimp only at hS); have q1 := hS.1; have q2 := hS.2.1; go_simp; (try with_reducible rfl))
              try simp only [Act.put]
              try simp only [List.setIfInBounds_toArray]
              try simp only [List.set_cons_succ]
              try simp only [List.set_cons_zero]
              refine wpAnyH_take (i := 16) (oi := ?_) (v := ?_) ?_ (by kernel_rfl) (by kernel_rfl) (by kernel_rfl) ?_ (Or.inl ⟨?_, ?_⟩) (by assumption) ?_
              rotate_left 2
              focus (simp only [List.getElem?_toArray, List.getElem?_cons_succ, List.getElem?_cons_zero]; rfl)
              focus exact fun _ _ _ h => h
              focus rfl
              focus (intro W hS; (try dsimp only at hS); have q1 := hS.1; have q2 := hS.2.1; go_simp; (try with_reducible rfl))
              try simp only [Act.put]
              try simp only [List.setIfInBounds_toArray]
              try simp only [List.set_cons_succ]
              try simp only [List.set_cons_zero]
              refine wpAnyH_ready (rs := [17]) (by kernel_rfl) (by simp) ?_
              refine AllReadyH.cons (o := ?_) ?_ (fun K hK => ?_) AllReadyH.nil
              rotate_left
              focus (simp only [List.getElem?_toArray, List.getElem?_cons_succ, List.getElem?_cons_zero]; rfl)
              rw [if_pos (by rfl)]
              go_simp
              refine (HRE.out _ hHeld.2.2).mono ?_
              rintro e w9 ⟨rfl, hb9⟩
              go_wp2_with fail
              refine hK.out _ _ ⟨stays hb9 hHeld.1, stays hb9 hHeld.2.1, hHeld.2.2.trans (hb9.mono hHeld.2.2.size)⟩ (fun hHeld => ?_)
              clear hK K
              try simp only [Act.put]
              try simp only [List.setIfInBounds_toArray]
              try simp only [List.set_cons_succ]
              try simp only [List.set_cons_zero]
              refine wpAnyH_take (i := 18) (oi := ?_) (v := ?_) ?_ (by kernel_rfl) (by kernel_rfl) (by kernel_rfl) ?_ (Or.inl ⟨?_, ?_⟩) (by assumption) ?_
              rotate_left 2
              focus (simp only [List.getElem?_toArray, List.getElem?_cons_succ, List.getElem?_cons_zero]; rfl)
              focus exact fun _ _ _ h => h
              focus rfl
              focus (intro W hS; (try dsimp only at hS); have q1 := hS.1; have q2 := hS.2.1; go_simp; (try with_reducible rfl))
              try simp only [Act.put]
              try simp only [List.setIfInBounds_toArray]
              try simp only [List.set_cons_succ]
              try simp only [List.set_cons_zero]
              refine wpAnyH_take (i := 19) (oi := ?_) (v := ?_) ?_ (by kernel_rfl) (by kernel_rfl) (by kernel_rfl) ?_ (Or.inl ⟨?_, ?_⟩) (by assumption) ?_
              rotate_left 2
              focus (simp only [List.getElem?_toArray, List.getElem?_cons_succ, List.getElem?_cons_zero]; rfl)
              focus exact fun _ _ _ h => h
              focus rfl
              focus (intro W hS; (try dsimp only at hS); have q1 := hS.1; have q2 := hS.2.1; go_simp; (try with_reducible rfl))
              try simp only [Act.put]
              try simp only [List.setIfInBounds_toArray]
              try simp only [List.set_cons_succ]
              try simp only [List.set_cons_zero]
              refine wpAnyH_take (i := 20) (oi := ?_) (v := ?_) ?_ (by kernel_rfl) (by kernel_rfl) (by kernel_rfl) ?_ (Or.inl ⟨?_, ?_⟩) (by assumption) ?_
              rotate_left 2
              focus (simp only [List.getElem?_toArray, List.getElem?_cons_succ, List.getElem?_cons_zero]; rfl)
              focus exact fun _ _ _ h => h
              focus rfl
              focus (intro W hS; (try dsimp only at hS); have q1 := hS.1; have q2 := hS.2.1; go_simp; (try with_reducible rfl))
              try simp only [Act.put]
              try simp only [List.setIfInBounds_toArray]
              try simp only [List.set_cons_succ]
              try simp only [List.set_cons_zero]
              refine wpAnyH_take (i := 21) (oi := ?_) (v := ?_) ?_ (by kernel_rfl) (by kernel_rfl) (by kernel_rfl) ?_ (Or.inl ⟨?_, ?_⟩) (by assumption) ?_
              rotate_left 2
              focus (simp only [List.getElem?_toArray, List.getElem?_cons_succ, List.getElem?_cons_zero]; rfl)
              focus exact fun _ _ _ h => h
              focus rfl
              focus (intro W hS; (try dsimp only at hS); have q1 := hS.1; have q2 := hS.2.1; go_simp; (try with_reducible rfl))
              try simp only [Act.put]
              try simp only [List.setIfInBounds_toArray]
              try simp only [List.set_cons_succ]
              try simp only [List.set_cons_zero]
              refine wpAnyH_done (by kernel_rfl) ?_ _
              go_wp2_with fail
              go_ret
              exact ⟨by first | rfl | trivial, HC7.out.trans (hHeld.2.2.mono HC7.out.size)⟩
            · have hm0 : m2 = 0 := hiff.2 ⟨hft, hp⟩
              have HRE := Lib.hid (fun W (h : Below w6.heap.size w6 W) => (reach_any (c := c) (HN7.out.below h) (by omega) HD2.out d v.id).mono fun e w' ⟨b, h1, h2, h3⟩ => (show e = Ending.returned (.bool false) ∧ Below W.heap.size W w' from by
                cases b with
                | false => exact ⟨h1, h3⟩
                | true => exact absurd (h2.1 rfl).2 hp))
              clear hiff hp
              subst hm0
              go_wp2_with fail
              refine wp_region_held_drew (S := fun W => W.cell? ⟨b0, q + t * 2, none⟩ = some (.int .u64 d) ∧ W.cell? ⟨b0, q + f * 2, none⟩ = some (.int .u64 v.id) ∧ Below w6.heap.size w6 W) (by kernel_rfl) ⟨ct, cf, (Below.refl _ _).drew⟩ (fun hHeld => ?_)
              refine wpAnyH_take (i := 0) (oi := ?_) (v := ?_) ?_ (by kernel_rfl) (by kernel_rfl) (by kernel_rfl) ?_ (Or.inl ⟨?_, ?_⟩) (by assumption) ?_
              rotate_left 2
              focus (simp only [List.getElem?_toArray, List.getElem?_cons_zero]; rfl)
              focus exact fun _ _ _ h => h
              focus rfl
              focus (intro W hS; (try dsimp only at hS); have q1 := hS.1; have q2 := hS.2.1; go_simp; (try with_reducible rfl))
              try simp only [Act.put]
              try simp only [List.setIfInBounds_toArray]
              try simp only [List.set_cons_succ]
              try simp only [List.set_cons_zero]
              refine wpAnyH_take (i := 1) (oi := ?_) (v := ?_) ?_ (by kernel_rfl) (by kernel_rfl) (by kernel_rfl) ?_ (Or.inl ⟨?_, ?_⟩) (by assumption) ?_
              rotate_left 2
              focus (simp only [List.getElem?_toArray, List.getElem?_cons_succ, List.getElem?_cons_zero]; rfl)
              focus exact fun _ _ _ h => h
              focus rfl
              focus (intro W hS; (try dsimp only at hS); have q1 := hS.1; have q2 := hS.2.1; go_simp; (try with_reducible rfl))
              try simp only [Act.put]
              try simp only [List.setIfInBounds_toArray]
              try simp only [List.set_cons_succ]
              try simp only [List.set_cons_zero]
              refine wpAnyH_take (i := 2) (oi := ?_) (v := ?_) ?_ (by kernel_rfl) (by kernel_rfl) (by kernel_rfl) ?_ (Or.inl ⟨?_, ?_⟩) (by assumption) ?_
              rotate_left 2
              focus (simp only [List.getElem?_toArray, List.getElem?_cons_succ, List.getElem?_cons_zero]; rfl)
              focus exact fun _ _ _ h => h
              focus rfl
              focus (intro W hS; (try dsimp only at hS); have q1 := hS.1; have q2 := hS.2.1; go_simp; (try with_reducible rfl))
              try simp only [Act.put]
              try simp only [List.setIfInBounds_toArray]
              try simp only [List.set_cons_succ]
              try simp only [List.set_cons_zero]
              refine wpAnyH_take (i := 3) (oi := ?_) (v := ?_) ?_ (by kernel_rfl) (by kernel_rfl) (by kernel_rfl) ?_ (Or.inl ⟨?_, ?_⟩) (by assumption) ?_
              rotate_left 2
              focus (simp only [List.getElem?_toArray, List.getElem?_cons_succ, List.getElem?_cons_zero]; rfl)
              focus exact fun _ _ _ h => h
              focus rfl
              focus (intro W hS; (try dsimp only at hS); have q1 := hS.1; have q2 := hS.2.1; go_simp; (try with_reducible rfl))
              try simp only [Act.put]
              try simp only [List.setIfInBounds_toArray]
              try simp only [List.set_cons_succ]
              try simp only [List.set_cons_zero]
              refine wpAnyH_take (i := 4) (oi := ?_) (v := ?_) ?_ (by kernel_rfl) (by kernel_rfl) (by kernel_rfl) ?_ (Or.inl ⟨?_, ?_⟩) (by assumption) ?_
              rotate_left 2
              focus (simp only [List.getElem?_toArray, List.getElem?_cons_succ, List.getElem?_cons_zero]; rfl)
              focus exact fun _ _ _ h => h
              focus rfl
              focus (intro W hS; (try dsimp only at hS); have q1 := hS.1; have q2 := hS.2.1; go_simp; (try with_reducible rfl))
              try simp only [Act.put]
              try simp only [List.setIfInBounds_toArray]
              try simp only [List.set_cons_succ]
              try simp only [List.set_cons_zero]
              refine wpAnyH_take (i := 5) (oi := ?_) (v := ?_) ?_ (by kernel_rfl) (by kernel_rfl) (by kernel_rfl) ?_ (Or.inl ⟨?_, ?_⟩) (by assumption) ?_
              rotate_left 2
              focus (simp only [List.getElem?_toArray, List.getElem?_cons_succ, List.getElem?_cons_zero]; rfl)
              focus exact fun _ _ _ h => h
              focus rfl
              focus (intro W hS; (try dsimp only at hS); have q1 := hS.1; have q2 := hS.2.1; go_simp; (try with_reducible rfl))
              try simp only [Act.put]
              try simp only [List.setIfInBounds_toArray]
              try simp only [List.set_cons_succ]
              try simp only [List.set_cons_zero]
              refine wpAnyH_take (i := 6) (oi := ?_) (v := ?_) ?_ (by kernel_rfl) (by kernel_rfl) (by kernel_rfl) ?_ (Or.inl ⟨?_, ?_⟩) (by assumption) ?_
              rotate_left 2
              focus (simp only [List.getElem?_toArray, List.getElem?_cons_succ, List.getElem?_cons_zero]; rfl)
              focus exact fun _ _ _ h => h
              focus rfl
              focus (intro W hS; (try dsimp only at hS); have q1 := hS.1; have q2 := hS.2.1; go_simp; (try with_reducible rfl))
              try simp only [Act.put]
              try simp only [List.setIfInBounds_toArray]
              try simp only [List.set_cons_succ]
              try simp only [List.set_cons_zero]
              refine wpAnyH_take (i := 7) (oi := ?_) (v := ?_) ?_ (by kernel_rfl) (by kernel_rfl) (by kernel_rfl) ?_ (Or.inl ⟨?_, ?_⟩) (by assumption) ?_
              rotate_left 2
              focus (simp only [List.getElem?_toArray, List.getElem?_cons_succ, List.getElem?_cons_zero]; rfl)
              focus exact fun _ _ _ h => h
              focus rfl
              focus (intro W hS; (try dsimp only at hS); have q1 := hS.1; have q2 := hS.2.1; go_simp; (try with_reducible rfl))
              try simp only [Act.put]
              try simp only [List.setIfInBounds_toArray]
              try simp only [List.set_cons_succ]
              try simp only [List.set_cons_zero]
              refine wpAnyH_take (i := 8) (oi := ?_) (v := ?_) ?_ (by kernel_rfl) (by kernel_rfl) (by kernel_rfl) ?_ (Or.inl ⟨?_, ?_⟩) (by assumption) ?_
              rotate_left 2
              focus (simp only [List.getElem?_toArray, List.getElem?_cons_succ, List.getElem?_cons_zero]; rfl)
              focus exact fun _ _ _ h => h
              focus rfl
              focus (intro W hS; (try dsimp only at hS); have q1 := hS.1; have q2 := hS.2.1; go_simp; (try with_reducible rfl))
              try simp only [Act.put]
              try simp only [List.setIfInBounds_toArray]
              try simp only [List.set_cons_succ]
              try simp only [List.set_cons_zero]
              refine wpAnyH_take (i := 9) (oi := ?_) (v := ?_) ?_ (by kernel_rfl) (by kernel_rfl) (by kernel_rfl) ?_ (Or.inl ⟨?_, ?_⟩) (by assumption) ?_
              rotate_left 2
              focus (simp only [List.getElem?_toArray, List.getElem?_cons_succ, List.getElem?_cons_zero]; rfl)
              focus exact fun _ _ _ h => h
              focus rfl
              focus (intro W hS; (try dsimp only at hS); have q1 := hS.1; have q2 := hS.2.1; go_simp; (try with_reducible rfl))
              try simp only [Act.put]
              try simp only [List.setIfInBounds_toArray]
              try simp only [List.set_cons_succ]
              try simp only [List.set_cons_zero]
              refine wpAnyH_take (i := 10) (oi := ?_) (v := ?_) ?_ (by kernel_rfl) (by kernel_rfl) (by kernel_rfl) ?_ (Or.inl ⟨?_, ?_⟩) (by assumption) ?_
              rotate_left 2
              focus (simp only [List.getElem?_toArray, List.getElem?_cons_succ, List.getElem?_cons_zero]; rfl)
              focus exact fun _ _ _ h => h
              focus rfl
              focus (intro W hS; (try dsimp only at hS); have q1 := hS.1; have q2 := hS.2.1; go_simp; (try with_reducible rfl))
              try simp only [Act.put]
              try simp only [List.setIfInBounds_toArray]
              try simp only [List.set_cons_succ]
              try simp only [List.set_cons_zero]
              refine wpAnyH_take (i := 11) (oi := ?_) (v := ?_) ?_ (by kernel_rfl) (by kernel_rfl) (by kernel_rfl) ?_ (Or.inl ⟨?_, ?_⟩) (by assumption) ?_
              rotate_left 2
              focus (simp only [List.getElem?_toArray, List.getElem?_cons_succ, List.getElem?_cons_zero]; rfl)
              focus exact fun _ _ _ h => h
              focus rfl
              focus (intro W hS; (try dsimp only at hS); have q1 := hS.1; have q2 := hS.2.1; go_simp; (try with_reducible rfl))
              try simp only [Act.put]
              try simp only [List.setIfInBounds_toArray]
              try simp only [List.set_cons_succ]
              try simp only [List.set_cons_zero]
              refine wpAnyH_take (i := 12) (oi := ?_) (v := ?_) ?_ (by kernel_rfl) (by kernel_rfl) (by kernel_rfl) ?_ (Or.inl ⟨?_, ?_⟩) (by assumption) ?_
              rotate_left 2
              focus (simp only [List.getElem?_toArray, List.getElem?_cons_succ, List.getElem?_cons_zero]; rfl)
              focus exact fun _ _ _ h => h
              focus rfl
              focus (intro W hS; (try dsimp only at hS); have q1 := hS.1; have q2 := hS.2.1; go_simp; (try with_reducible rfl))
              try simp only [Act.put]
              try simp only [List.setIfInBounds_toArray]
              try simp only [List.set_cons_succ]
              try simp only [List.set_cons_zero]
              refine wpAnyH_take (i := 13) (oi := ?_) (v := ?_) ?_ (by kernel_rfl) (by kernel_rfl) (by kernel_rfl) ?_ (Or.inl ⟨?_, ?_⟩) (by assumption) ?_
              rotate_left 2
              focus (simp only [List.getElem?_toArray, List.getElem?_cons_succ, List.getElem?_cons_zero]; rfl)
              focus exact fun _ _ _ h => h
              focus rfl
              focus (intro W hS; (try dsimp only at hS); have q1 := hS.1; have q2 := hS.2.1; go_simp; (try with_reducible rfl))
              try simp only [Act.put]
              try simp only [List.setIfInBounds_toArray]
              try simp only [List.set_cons_succ]
              try simp only [List.set_cons_zero]
              refine wpAnyH_take (i := 14) (oi := ?_) (v := ?_) ?_ (by kernel_rfl) (by kernel_rfl) (by kernel_rfl) ?_ (Or.inl ⟨?_, ?_⟩) (by assumption) ?_
              rotate_left 2
              focus (simp only [List.getElem?_toArray, List.getElem?_cons_succ, List.getElem?_cons_zero]; rfl)
              focus exact fun _ _ _ h => h
              focus rfl
              focus (intro W hS; (try dsimp only at hS); have q1 := hS.1; have q2 := hS.2.1; go_simp; (try with_reducible rfl))
              try simp only [Act.put]
              try simp only [List.setIfInBounds_toArray]
              try simp only [List.set_cons_succ]
              try simp only [List.set_cons_zero]
              refine wpAnyH_take (i := 15) (oi := ?_) (v := ?_) ?_ (by kernel_rfl) (by kernel_rfl) (by kernel_rfl) ?_ (Or.inl ⟨?_, ?_⟩) (by assumption) ?_
              rotate_left 2
              focus (simp only [List.getElem?_toArray, List.getElem?_cons_succ, List.getElem?_cons_zero]; rfl)
              focus exact fun _ _ _ h => h
              focus rfl
              focus (intro W hS; (try dsimp only at hS); have q1 := hS.1; have q2 := hS.2.1; go_simp; (try with_reducible rfl))
              try simp only [Act.put]
              try simp only [List.setIfInBounds_toArray]
              try simp only [List.set_cons_succ]
              try simp only [List.set_cons_zero]
              refine wpAnyH_take (i := 16) (oi := ?_) (v := ?_) ?_ (by kernel_rfl) (by kernel_rfl) (by kernel_rfl) ?_ (Or.inl ⟨?_, ?_⟩) (by assumption) ?_
              rotate_left 2
              focus (simp only [List.getElem?_toArray, List.getElem?_cons_succ, List.getElem?_cons_zero]; rfl)
              focus exact fun _ _ _ h => h
              focus rfl
              focus (intro W hS; (try dsimp only at hS); have q1 := hS.1; have q2 := hS.2.1; go_simp; (try with_reducible rfl))
              try simp only [Act.put]
              try simp only [List.setIfInBounds_toArray]
              try simp only [List.set_cons_succ]
              try simp only [List.set_cons_zero]
              refine wpAnyH_ready (rs := [17]) (by kernel_rfl) (by simp) ?_
              refine AllReadyH.cons (o := ?_) ?_ (fun K hK => ?_) AllReadyH.nil
              rotate_left
              focus (simp only [List.getElem?_toArray, List.getElem?_cons_succ, List.getElem?_cons_zero]; rfl)
              rw [if_pos (by rfl)]
              go_simp
              refine (HRE.out _ hHeld.2.2).mono ?_
              rintro e w9 ⟨rfl, hb9⟩
              go_wp2_with fail
              refine hK.out _ _ ⟨stays hb9 hHeld.1, stays hb9 hHeld.2.1, hHeld.2.2.trans (hb9.mono hHeld.2.2.size)⟩ (fun hHeld => ?_)
              clear hK K
              try simp only [Act.put]
              try simp only [List.setIfInBounds_toArray]
              try simp only [List.set_cons_succ]
              try simp only [List.set_cons_zero]
              refine wpAnyH_take (i := 18) (oi := ?_) (v := ?_) ?_ (by kernel_rfl) (by kernel_rfl) (by kernel_rfl) ?_ (Or.inl ⟨?_, ?_⟩) (by assumption) ?_
              rotate_left 2
              focus (simp only [List.getElem?_toArray, List.getElem?_cons_succ, List.getElem?_cons_zero]; rfl)
              focus exact fun _ _ _ h => h
              focus rfl
              focus (intro W hS; (try dsimp only at hS); have q1 := hS.1; have q2 := hS.2.1; go_simp; (try with_reducible rfl))
              try simp only [Act.put]
              try simp only [List.setIfInBounds_toArray]
              try simp only [List.set_cons_succ]
              try simp only [List.set_cons_zero]
              refine wpAnyH_take (i := 19) (oi := ?_) (v := ?_) ?_ (by kernel_rfl) (by kernel_rfl) (by kernel_rfl) ?_ (Or.inl ⟨?_, ?_⟩) (by assumption) ?_
              rotate_left 2
              focus (simp only [List.getElem?_toArray, List.getElem?_cons_succ, List.getElem?_cons_zero]; rfl)
              focus exact fun _ _ _ h => h
              focus rfl
              focus (intro W hS; (try dsimp only at hS); have q1 := hS.1; have q2 := hS.2.1; go_simp; (try with_reducible rfl))
              try simp only [Act.put]
              try simp only [List.setIfInBounds_toArray]
              try simp only [List.set_cons_succ]
              try simp only [List.set_cons_zero]
              refine wpAnyH_take (i := 20) (oi := ?_) (v := ?_) ?_ (by kernel_rfl) (by kernel_rfl) (by kernel_rfl) ?_ (Or.inl ⟨?_, ?_⟩) (by assumption) ?_
              rotate_left 2
              focus (simp only [List.getElem?_toArray, List.getElem?_cons_succ, List.getElem?_cons_zero]; rfl)
              focus exact fun _ _ _ h => h
              focus rfl
              focus (intro W hS; (try dsimp only at hS); have q1 := hS.1; have q2 := hS.2.1; go_simp; (try with_reducible rfl))
              try simp only [Act.put]
              try simp only [List.setIfInBounds_toArray]
              try simp only [List.set_cons_succ]
              try simp only [List.set_cons_zero]
              refine wpAnyH_take (i := 21) (oi := ?_) (v := ?_) ?_ (by kernel_rfl) (by kernel_rfl) (by kernel_rfl) ?_ (Or.inl ⟨?_, ?_⟩) (by assumption) ?_
              rotate_left 2
              focus (simp only [List.getElem?_toArray, List.getElem?_cons_succ, List.getElem?_cons_zero]; rfl)
              focus exact fun _ _ _ h => h
              focus rfl
              focus (intro W hS; (try dsimp only at hS); have q1 := hS.1; have q2 := hS.2.1; go_simp; (try with_reducible rfl))
              try simp only [Act.put]
              try simp only [List.setIfInBounds_toArray]
              try simp only [List.set_cons_succ]
              try simp only [List.set_cons_zero]
              refine wpAnyH_done (by kernel_rfl) ?_ _
              go_wp2_with fail
              go_ret
              exact ⟨by first | rfl | trivial, HC7.out.trans (hHeld.2.2.mono HC7.out.size)⟩
      · go_wp2_with fail
        go_ret
        exact ⟨by first | rfl | trivial, HC3.out⟩

end Go.Proofs.Ythbaldjdfehhlaa
