/- The law GraphLess: its walk. -/
import Derived.Test.YthbaldjdfehhlaaLessM13
namespace Go.Proofs.Ythbaldjdfehhlaa
open Go.RowKit Gr Go.Sort

set_option maxRecDepth 100000 in
set_option maxHeartbeats 8000000 in
theorem less_in {w : World} {a : Option Addr} {l : List NodeV} {c : Nat} (hN : NodesF w a l) (hlc : l.length ≤ c) (hcm : c ≤ 9223372036854775807) (x : Int) :
    Calls Try.prog 5 #[.slice a l.length c, .int .i64 x] w fun e w' => e = .returned (.bool true) ∧ Below w.heap.size w w' := by
  have HN := Lib.hid hN
  have HK := Lib.hid (known_any w)
  clear hN
  go_enter Try.func5, Try.ntmps5
  go_wp2_with fail
  refine HK.out.mono ?_
  rintro e w1 ⟨rfl, hb1⟩
  have HN1 := Lib.hid (HN.out.below hb1)
  have HB1 := Lib.hid hb1
  have HG := Lib.hid (great_any (c := c) HN1.out (by omega))
  obtain ⟨r, hr⟩ : ∃ r, greatOf l = r := ⟨_, rfl⟩
  rw [hr] at HG
  have HR := Lib.hid hr
  clear HK hb1 hr
  cases r with
  | true =>
    go_wp2_with fail
    refine HG.out.mono ?_
    rintro e w2 ⟨rfl, rfl⟩
    go_wp2_with fail
    go_ret
    exact ⟨by first | rfl | trivial, HB1.out⟩
  | false =>
    obtain ⟨hl, hdl⟩ := great_no HR.out
    have HD2 := Lib.hid (fun v hv => Nat.le_trans (hdl v hv) (by omega) : ∀ v ∈ l, v.deps.length ≤ 100000)
    obtain ⟨m, hm⟩ : ∃ m, mayOf (rowOf l) = m := ⟨_, rfl⟩
    have HM := Lib.hid hm
    clear hdl hm
    go_wp2_with fail
    refine HG.out.mono ?_
    rintro e w2 ⟨rfl, rfl⟩
    have C := Lib.hid (may_any (c := c) HN1.out (by omega) HD2.out)
    rw [HM.out] at C
    clear HG
    go_wp2_with fail
    refine C.out.mono ?_
    rintro e w3 ⟨rfl, hb⟩
    have HN3 := Lib.hid (HN1.out.below hb)
    have HC3 := Lib.hid (HB1.out.trans (hb.mono HB1.out.size))
    clear C hb
    by_cases hm0 : m = 0
    case neg =>
      have hm0b : (m == 0) = false := by simpa using hm0
      go_wp2_with fail
      go_ret
      exact ⟨by first | rfl | trivial, HC3.out⟩
    subst hm0
    by_cases hz : l.length = 0
    · obtain rfl := List.eq_nil_of_length_eq_zero hz
      go_wp2_with fail
      go_ret
      exact ⟨by first | rfl | trivial, HC3.out⟩
    have hb0 : ((l.length : Int) == 0) = false := by simp; intro e; rw [e] at hz; exact hz rfl
    have hl0 : 0 < l.length := by omega
    by_cases hx : x < 0
    · have hx0 : decide (x < 0) = true := by simp; omega
      go_wp2_with fail
      go_ret
      exact ⟨by first | rfl | trivial, HC3.out⟩
    have hx0 : decide (x < 0) = false := by simp; omega
    obtain ⟨x, rfl⟩ : ∃ n : Nat, x = (n : Int) := ⟨x.toNat, by omega⟩
    obtain ⟨k, hk⟩ : ∃ k, k = x % l.length := ⟨_, rfl⟩
    have hkl : k < l.length := by rw [hk]; exact Nat.mod_lt _ hl0
    have hmk : (x : Int).tmod (l.length : Int) = (k : Int) := by rw [Int.tmod_eq_emod_of_nonneg (by omega), hk]; simp
    have hmay := (may_iff).1 HM.out
    have ho := ordOf_ok HM.out
    have hoe := hmay.full
    rw [rowOf_len] at hoe
    obtain ⟨o, hoo⟩ : ∃ o, orderOf (rowOf l) = o := ⟨_, rfl⟩
    rw [hoo] at ho hoe
    have hof : ∀ z ∈ o, U64 z := ho ▸ ordOf_fit (fun v hv => (HN1.out.each v hv).id)
    have HMAY := Lib.hid hmay
    have HO := Lib.hid ho
    have HOO := Lib.hid hoo
    have HOE := Lib.hid hoe
    have HOF := Lib.hid hof
    have C := Lib.hid (order_any (c := c) HN3.out (by omega) HD2.out)
    clear hz hx hk hmay ho hoe hoo hof
    go_wp2_with fail
    refine C.out.mono ?_
    rintro e w4 ⟨v, rfl, hrow, hb⟩
    rw [HO.out] at hrow
    rw [HM.out]
    obtain ⟨va, vc, rfl⟩ := hrow.shape
    have HN4 := Lib.hid (HN3.out.below hb)
    have HC4 := Lib.hid (HC3.out.trans (hb.mono HC3.out.size))
    have HV := Lib.hid (hrow.read HOF.out).1
    obtain ⟨⟨b0, q, ha, hc⟩, heach⟩ := HN4.out
    cases ha (by intro e; rw [e] at hl0; cases hl0)
    have HCC := Lib.hid hc
    have HEA := Lib.hid heach
    obtain ⟨iN, hiN, hzN0, hzN1, hzN2⟩ := info_parts infoNode
    obtain ⟨mc, hmc⟩ : ∃ mc, mc = madeCells #[.int .u64 0, .slice none 0 0] (l.length * 2) := ⟨_, rfl⟩
    have hmake : ∀ W, (Instr.makeSlice 22 (.int .i64 (l.length : Int)) (.int .i64 (l.length : Int))).run Try.prog W = .ok (.slice (some ⟨W.heap.size, 0, none⟩) l.length l.length) (W.alloc (.cells mc 35)) := fun W => by
      have := run_make (P := Try.prog) W 22 35 iN (.agg #[.int .u64 0, .slice none 0 0]) Try.underlying22 hiN hzN0 .i64 .i64 (l.length : Int) (l.length : Int) (by omega) (Int.le_refl _) (by rw [hzN2]; omega) (by omega)
      rw [Int.toNat_natCast, hzN1] at this
      rw [hmc]
      exact this
    have hcp0 := copy_made w4 l.length
    rw [← hmc, ← turned_zero] at hcp0
    have HCP0 := Lib.hid hcp0
    clear C hrow hb hb0 hx0 hmk hc heach hcp0 hmc hiN hzN0 hzN1 hzN2
    go_wp2_with fail
    clear hmake
    obtain ⟨G, hG⟩ : ∃ G, G = w4.heap.size := ⟨_, rfl⟩
    obtain ⟨wm, hwm⟩ : ∃ wm, wm = w4.alloc (.cells mc 35) := ⟨_, rfl⟩
    have HBM := Lib.hid (show Below w4.heap.size w4 wm by rw [hwm]; exact (Below.refl _ _).alloc (Nat.le_refl _) _)
    rw [← hwm, ← hG] at HCP0
    rw [← hwm, ← hG]
    have HGG := Lib.hid hG
    clear hwm hG
    go_loopw [8] (fun v wr => ∃ i : Nat, v = .int .i64 (i : Int) ∧ i ≤ l.length ∧ CopyN G (turned l i) wr ∧ Below w4.heap.size w4 wr) (fun v _ => l.length - (intOf v).toNat)
    case atStart => exact ⟨0, rfl, Nat.zero_le _, HCP0.out, HBM.out⟩
    case round =>
      clear HCP0 HBM
      obtain ⟨i, rfl, hi, hcp, hb⟩ := hrel
      have HCP := Lib.hid hcp
      have HB := Lib.hid hb
      clear hcp hb
      by_cases hlt : i < l.length
      · obtain ⟨hg, hc1, hc2⟩ := HCC.out i hlt
        have hd1 := (HB.out.cell (p := ⟨b0, q + i * 2, none⟩) hg).trans hc1
        have hd2 := (HB.out.cell (p := ⟨b0, q + i * 2 + 1, none⟩) hg).trans hc2
        have hd : decide ((i : Int) < (l.length : Int)) = true := by simp; omega
        obtain ⟨j, hj⟩ : ∃ j, j = l.length - 1 - i := ⟨_, rfl⟩
        have hjl : j < l.length := by omega
        have hji : (l.length : Int) - 1 - (i : Int) = (j : Int) := by omega
        have hnx := turned_next l hlt
        rw [← hj] at hnx
        obtain ⟨x1, x2⟩ := HCP.out.at_ (j := j * 2) (by rw [turned_len l hi]; omega)
        obtain ⟨x3, x4⟩ := HCP.out.at_ (j := j * 2 + 1) (by rw [turned_len l hi]; omega)
        rw [(flatN_at (by rw [turned_len l hi]; exact hjl)).1] at x1
        rw [(flatN_at (by rw [turned_len l hi]; exact hjl)).2] at x3
        obtain ⟨u0, hu0⟩ : ∃ u, (turned l i)[j]'(by rw [turned_len l hi]; exact hjl) = u := ⟨_, rfl⟩
        rw [hu0] at x1 x3
        obtain ⟨v, hv⟩ : ∃ v, l[i] = v := ⟨_, rfl⟩
        rw [hv] at hd1 hd2 hnx
        have HNX := Lib.hid hnx
        clear hv hc1 hc2 hnx hu0 hj
        go_wp2_with fail
        go_roundw
        case rel => exact ⟨i + 1, by go_num, by omega, by rw [← HNX.out]; exact HCP.out.put v, (HB.out.setCell (p := ⟨G, j * 2, none⟩) (by rw [HGG.out]; exact Nat.le_refl _) _).setCell (p := ⟨G, j * 2 + 1, none⟩) (by rw [HGG.out]; exact Nat.le_refl _) _⟩
        case measure => simp [intOf]; omega
      · obtain rfl : i = l.length := by omega
        have hd : decide ((l.length : Int) < (l.length : Int)) = false := by simp
        rw [turned_all] at HCP
        have hnr : NodesF wr (some ⟨G, 0, none⟩) l.reverse := HCP.out.read fun v hv => (HEA.out v (List.mem_reverse.1 hv)).below HB.out
        have C := order_any (c := l.length) hnr (by rw [List.length_reverse]; omega) (fun v hv => HD2.out v (List.mem_reverse.1 hv))
        have hperm : (rowOf l).Perm (rowOf l.reverse) := by rw [rowOf_reverse]; exact (List.reverse_perm _).symm
        have hmr : mayOf (rowOf l.reverse) = 0 := may_iff.2 (HMAY.out.perm hperm)
        rw [List.length_reverse, ordOf_ok hmr, hmr, ← order_perm hperm, HOO.out] at C
        have HC := Lib.hid C
        have HCW := Lib.hid (HC4.out.trans (HB.out.mono HC4.out.size))
        clear hnr C hperm hmr HCP
        go_wp2_with fail
        refine HC.out.mono ?_
        rintro e w5 ⟨v, rfl, hrow, hb⟩
        obtain ⟨vb, vd, rfl⟩ := hrow.shape
        have hb45 := HB.out.trans (hb.mono HB.out.size)
        have HB45 := Lib.hid hb45
        have HV5 := Lib.hid (HV.out.below hb45)
        have HW5 := Lib.hid (hrow.read HOF.out).1
        have HN5 := Lib.hid (HN4.out.below hb45)
        have HC5 := Lib.hid (HCW.out.trans (hb.mono HCW.out.size))
        have hol : o.length ≤ 1000000 := by rw [HOE.out]; omega
        have C := refSame_any (c := vc) (d := vd) HV5.out HW5.out hol
        rw [show decide (o = o) = true by simp] at C
        have HS := Lib.hid C
        clear hrow hb hb45 C HC hol HCW
        go_wp2_with fail
        refine HS.out.mono ?_
        rintro e w6 ⟨rfl, hdr⟩
        have HV6 := Lib.hid (HV5.out.below hdr.bel)
        have HN6 := Lib.hid (HN5.out.below hdr.bel)
        have HC6 := Lib.hid (HC5.out.trans (hdr.bel.mono HC5.out.size))
        have HB46 := Lib.hid (HB45.out.trans (hdr.bel.mono HB45.out.size))
        obtain ⟨d, hdd⟩ : ∃ d, l[k].id = d := ⟨_, rfl⟩
        have hck : w6.cell? ⟨b0, q + k * 2, none⟩ = some (.int .u64 d) := by
          obtain ⟨_, h, _⟩ := HCC.out k hkl
          rw [hdd] at h
          exact stays HB46.out h
        obtain ⟨us, hus⟩ : ∃ us, useOf (rowOf l) d = us := ⟨_, rfl⟩
        have h64 : l.length ≤ 64 := by
          have := HMAY.out.len
          rwa [rowOf_len] at this
        have C := users_any (c := c) HN6.out (by omega) HD2.out d
        rw [hus] at C
        have HU := Lib.hid C
        have hmem : ∀ z, z ∈ us ↔ Gr.Edge (rowOf l) z d := fun z => by
          have h2 : useOf (rowOf l) d = usersOf (rowOf l) d := by unfold useOf; rw [rowOf_len, if_pos h64]
          rw [← hus, h2]
          exact (users_is (rowOf l) d).mem z
        have huf : ∀ z ∈ us, U64 z := hus ▸ useOf_fit (fun v hv => (HN6.out.each v hv).id) d
        have hul : us.length ≤ l.length := by
          have h2 : useOf (rowOf l) d = usersOf (rowOf l) d := by unfold useOf; rw [rowOf_len, if_pos h64]
          rw [← hus, h2]
          have := nodup_le (l := ids (rowOf l)) ((users_is (rowOf l) d).rise.imp fun h => by omega) fun z hz => (((users_is (rowOf l) d).mem z).1 hz).head
          simpa [rowOf_ids] using this
        have HMEM := Lib.hid hmem
        have HUF := Lib.hid huf
        have HDD := Lib.hid hdd
        clear hdr C hus hmem huf hdd HS HV5 HW5 HB45 HC5 HN5
        go_wp2_with fail
        refine HU.out.mono ?_
        rintro e w7 ⟨v, rfl, hrow, hb⟩
        obtain ⟨vu, vuc, rfl⟩ := hrow.shape
        have HV7 := Lib.hid (HV6.out.below hb)
        have HN7 := Lib.hid (HN6.out.below hb)
        have HC7 := Lib.hid (HC6.out.trans (hb.mono HC6.out.size))
        have HB47 := Lib.hid (HB46.out.trans (hb.mono HB46.out.size))
        have HUR := Lib.hid (hrow.read HUF.out).1
        clear hrow hb hck HU HV6 HN6 HC6 HB46
        go_wp2_with fail
        go_loopw [4, 12] (fun _ v wr => Below w7.heap.size w7 wr ∧ ∃ i : Nat, v = .int .i64 (i : Int) ∧ i ≤ us.length) (fun _ v _ => us.length - (intOf v).toNat)
        case atStart => exact ⟨Below.refl _ _, 0, rfl, Nat.zero_le _⟩
        case round =>
          obtain ⟨hb, i, rfl, hi⟩ := hrel
          have HB8 := Lib.hid hb
          clear hb
          by_cases hlt : i < us.length
          · obtain ⟨⟨g, r, hga, hgc⟩, _⟩ := HUR.out
            obtain ⟨hgl, hgx⟩ := hgc i hlt
            cases hga (by intro e; subst e; simp at hlt)
            have hd1 := (HB8.out.cell (p := ⟨g, r + i, none⟩) hgl).trans hgx
            have hd2 : wr.cell? ⟨b0, q + k * 2, none⟩ = some (.int .u64 d) := by
              obtain ⟨_, h, _⟩ := HCC.out k hkl
              rw [HDD.out] at h
              exact stays HB8.out (stays HB47.out h)
            have hd : decide ((i : Int) < (us.length : Int)) = true := by simp; omega
            have hed := (HMEM.out us[i]).1 (List.getElem_mem hlt)
            obtain ⟨z, hz⟩ : ∃ z, us[i] = z := ⟨_, rfl⟩
            rw [hz] at hd1 hed
            have hre1 : ∀ W, Below wr.heap.size wr W → Calls Try.prog 15 #[.slice (some ⟨b0, q, none⟩) l.length c, .int .u64 z, .int .u64 d] W fun e w' => e = .returned (.bool true) ∧ Below W.heap.size W w' := fun W h => (reach_any (c := c) ((HN7.out.below HB8.out).below h) (by omega) HD2.out z d).mono fun e w' ⟨b, h1, h2, h3⟩ => by
              obtain rfl : b = true := h2.2 ⟨h64, .one hed⟩
              exact ⟨h1, h3⟩
            have hre2 : ∀ W, Below wr.heap.size wr W → Calls Try.prog 15 #[.slice (some ⟨b0, q, none⟩) l.length c, .int .u64 d, .int .u64 z] W fun e w' => e = .returned (.bool false) ∧ Below W.heap.size W w' := fun W h => (reach_any (c := c) ((HN7.out.below HB8.out).below h) (by omega) HD2.out d z).mono fun e w' ⟨b, h1, h2, h3⟩ => by
              cases b with
              | false => exact ⟨h1, h3⟩
              | true => exact absurd ((h2.1 rfl).2.snoc hed) (HMAY.out.acyclic d)
            have HRE1 := Lib.hid hre1
            have HRE2 := Lib.hid hre2
            clear hre1 hre2 hz hed hgc hga hgx
            go_wp2_with fail
            go_region_held3 (fun W => W.cell? ⟨g, r + i, none⟩ = some (.int .u64 z) ∧ W.cell? ⟨b0, q + k * 2, none⟩ = some (.int .u64 d) ∧ Below wr.heap.size wr W)
              (first
                | exact ⟨hd1, hd2, (Below.refl _ _).drew⟩
                | go_keep
                | (go_split_ands; exact ⟨stays hb9 (by assumption), stays hb9 (by assumption), Below.trans (by assumption) (hb9.mono (Below.size (by assumption)))⟩))
              (first
                | (go_at_call 15; (try go_split_ands); with_reducible refine (HRE1.out _ (by assumption)).mono ?_; rintro e w9 ⟨rfl, hb9⟩)
                | (go_at_call 15; (try go_split_ands); with_reducible refine (HRE2.out _ (by assumption)).mono ?_; rintro e w9 ⟨rfl, hb9⟩))
            have hbw9 : Below wr.heap.size wr w9 := by (try go_split_ands); assumption
            have HB9 := Lib.hid (HB8.out.trans (hbw9.mono HB8.out.size))
            clear hb9 hbw9
            go_wp2
            go_roundw
            case rel => exact ⟨HB9.out, i + 1, by go_num, by omega⟩
            case measure => simp [intOf]; omega
          · obtain rfl : i = us.length := by omega
            have hd : decide ((us.length : Int) < (us.length : Int)) = false := by simp
            have HN8 := Lib.hid (HN7.out.below HB8.out)
            have HV8 := Lib.hid (HV7.out.below HB8.out)
            have HC8 := Lib.hid (HC7.out.trans (HB8.out.mono HC7.out.size))
            have HB48 := Lib.hid (HB47.out.trans (HB8.out.mono HB47.out.size))
            clear HN7 HV7 HC7 HB47 HB8 HUR
            by_cases hu0 : us.length = 0
            case neg =>
              have hd9 : decide ((0 : Int) < (us.length : Int)) = true := by simp; omega
              go_wp2_with fail
              go_ret
              exact ⟨by first | rfl | trivial, HC8.out⟩
            obtain rfl := List.eq_nil_of_length_eq_zero hu0
            have hno : ∀ z, ¬ Gr.Edge (rowOf l) z d := fun z h => by have := (HMEM.out z).2 h; cases this
            have HNO := Lib.hid hno
            have hc1 : ¬ c = 0 := by omega
            have hkc : (k : Int) ≤ (c : Int) := by omega
            have hk0 : (0 : Int) ≤ (k : Int) := by omega
            have hk1 : (k : Int) + 1 ≤ (l.length : Int) := by omega
            clear hno hu0
            go_wp2_with fail
            have hbu : Below wr.heap.size wr wr.drew := (Below.refl _ _).drew
            have HN9 := Lib.hid (HN8.out.below hbu)
            have HV9 := Lib.hid (HV8.out.below hbu)
            have HC9 := Lib.hid HC8.out.drew
            have HB9 := Lib.hid (HB48.out.trans (hbu.mono HB48.out.size))
            obtain ⟨k1, hk1e⟩ : ∃ k1, k1 = k + 1 := ⟨_, rfl⟩
            have hwk : IntKind.i64.wrap ((k : Int) + 1) = (k1 : Int) := by rw [IntKind.wrap_i64]; omega
            have hk1n : (k1 : Int) ≤ (l.length : Int) := by omega
            have hxe : ∃ e : Addr, (e.block = b0 ∧ e.spot = none) ∧ (if c = k1 then (⟨b0, q, none⟩ : Addr) else ⟨b0, q + k1 * 2, none⟩) = e ∧ ∀ W, Below w4.heap.size w4 W → ∀ i (h : i < (l.drop k1).length), b0 < W.heap.size ∧ W.cell? ⟨b0, e.off + i * 2, none⟩ = some (.int .u64 (l.drop k1)[i].id) ∧ W.cell? ⟨b0, e.off + i * 2 + 1, none⟩ = some (.slice (l.drop k1)[i].da (l.drop k1)[i].deps.length (l.drop k1)[i].dc) := by
              by_cases hck : c = k1
              · refine ⟨⟨b0, q, none⟩, ⟨rfl, rfl⟩, by rw [if_pos hck], fun W _ i h => ?_⟩
                rw [List.length_drop] at h
                omega
              · refine ⟨⟨b0, q + k1 * 2, none⟩, ⟨rfl, rfl⟩, by rw [if_neg hck], fun W hW i h => ?_⟩
                obtain ⟨h1, h2, h3⟩ := drop_cells HCC.out k1 i h
                exact ⟨Nat.lt_of_lt_of_le h1 hW.size, stays hW h2, stays hW h3⟩
            obtain ⟨⟨eb, eo, es⟩, ⟨rfl, rfl⟩, hxe, hxc⟩ := hxe
            have hxe2 : (if c = k1 then some (⟨eb, q, none⟩ : Addr) else some ⟨eb, q + k1 * 2, none⟩) = some ⟨eb, eo, none⟩ := by
              rw [← hxe]
              split <;> rfl
            have HXC := Lib.hid hxc
            have HK1 := Lib.hid hk1e
            have hk10 : (0 : Int) ≤ (k1 : Int) := by omega
            clear hxe hxc hk1e
            refine wp_region_held_drew (S := fun W => Below wr.drew.heap.size wr.drew W ∧ True) (by kernel_rfl) ⟨Below.refl _ _, trivial⟩ (fun hHeld => ?_)
            obtain ⟨u0, hu0⟩ : ∃ u, u = wr.drew := ⟨_, rfl⟩
            rw [← hu0] at HN9 HV9 HC9 HB9 hHeld
            rw [← hu0]
            clear hu0 hbu HN8 HV8 HC8 HB48
            refine wpAnyH_take (i := 1) (oi := ?_) (v := ?_) ?_ (by kernel_rfl) (by kernel_rfl) (by kernel_rfl) ?_ (Or.inl ⟨?_, ?_⟩) (by assumption) ?_
            rotate_left 2
            focus (simp only [List.getElem?_toArray, List.getElem?_cons_succ, List.getElem?_cons_zero]; rfl)
            focus exact fun _ _ _ h => h
            focus rfl
            focus (intro W hS; (try dsimp only at hS); have q1 := hS.1; have q2 := hS.2; go_simp; (try with_reducible rfl))
            try simp only [Act.put]
            try simp only [List.setIfInBounds_toArray]
            try simp only [List.set_cons_succ]
            try simp only [List.set_cons_zero]
            refine wpAnyH_take (i := 2) (oi := ?_) (v := ?_) ?_ (by kernel_rfl) (by kernel_rfl) (by kernel_rfl) ?_ (Or.inl ⟨?_, ?_⟩) (by assumption) ?_
            rotate_left 2
            focus (simp only [List.getElem?_toArray, List.getElem?_cons_succ, List.getElem?_cons_zero]; rfl)
            focus exact fun _ _ _ h => h
            focus rfl
            focus (intro W hS; (try dsimp only at hS); have q1 := hS.1; have q2 := hS.2; go_simp; (try with_reducible rfl))
            try simp only [Act.put]
            try simp only [List.setIfInBounds_toArray]
            try simp only [List.set_cons_succ]
            try simp only [List.set_cons_zero]
            refine wpAnyH_take (i := 3) (oi := ?_) (v := ?_) ?_ (by kernel_rfl) (by kernel_rfl) (by kernel_rfl) ?_ (Or.inl ⟨?_, ?_⟩) (by assumption) ?_
            rotate_left 2
            focus (simp only [List.getElem?_toArray, List.getElem?_cons_succ, List.getElem?_cons_zero]; rfl)
            focus exact fun _ _ _ h => h
            focus rfl
            focus (intro W hS; (try dsimp only at hS); have q1 := hS.1; have q2 := hS.2; go_simp; (try with_reducible rfl))
            try simp only [Act.put]
            try simp only [List.setIfInBounds_toArray]
            try simp only [List.set_cons_succ]
            try simp only [List.set_cons_zero]
            refine wpAnyH_take (i := 5) (oi := ?_) (v := ?_) ?_ (by kernel_rfl) (by kernel_rfl) (by kernel_rfl) ?_ (Or.inl ⟨?_, ?_⟩) (by assumption) ?_
            rotate_left 2
            focus (simp only [List.getElem?_toArray, List.getElem?_cons_succ, List.getElem?_cons_zero]; rfl)
            focus exact fun _ _ _ h => h
            focus rfl
            focus (intro W hS; (try dsimp only at hS); have q1 := hS.1; have q2 := hS.2; go_simp; (try with_reducible rfl))
            try simp only [Act.put]
            try simp only [List.setIfInBounds_toArray]
            try simp only [List.set_cons_succ]
            try simp only [List.set_cons_zero]
            refine wpAnyH_take (i := 6) (oi := ?_) (v := ?_) ?_ (by kernel_rfl) (by kernel_rfl) (by kernel_rfl) ?_ (Or.inl ⟨?_, ?_⟩) (by assumption) ?_
            rotate_left 2
            focus (simp only [List.getElem?_toArray, List.getElem?_cons_succ, List.getElem?_cons_zero]; rfl)
            focus exact fun _ _ _ h => h
            focus rfl
            focus (intro W hS; (try dsimp only at hS); have q1 := hS.1; have q2 := hS.2; go_simp; (try with_reducible rfl))
            try simp only [Act.put]
            try simp only [List.setIfInBounds_toArray]
            try simp only [List.set_cons_succ]
            try simp only [List.set_cons_zero]
            refine wpAnyH_take (i := 7) (oi := ?_) (v := ?_) ?_ (by kernel_rfl) (by kernel_rfl) (by kernel_rfl) ?_ (Or.inl ⟨?_, ?_⟩) (by assumption) ?_
            rotate_left 2
            focus (simp only [List.getElem?_toArray, List.getElem?_cons_succ, List.getElem?_cons_zero]; rfl)
            focus exact fun _ _ _ h => h
            focus rfl
            focus (intro W hS; (try dsimp only at hS); have q1 := hS.1; have q2 := hS.2; go_simp; (try with_reducible rfl))
            try simp only [Act.put]
            try simp only [List.setIfInBounds_toArray]
            try simp only [List.set_cons_succ]
            try simp only [List.set_cons_zero]
            refine wpAnyH_take (i := 8) (oi := ?_) (v := ?_) ?_ (by kernel_rfl) (by kernel_rfl) (by kernel_rfl) ?_ (Or.inl ⟨?_, ?_⟩) (by assumption) ?_
            rotate_left 2
            focus (simp only [List.getElem?_toArray, List.getElem?_cons_succ, List.getElem?_cons_zero]; rfl)
            focus exact fun _ _ _ h => h
            focus rfl
            focus (intro W hS; (try dsimp only at hS); have q1 := hS.1; have q2 := hS.2; go_simp; (try with_reducible rfl))
            try simp only [Act.put]
            try simp only [List.setIfInBounds_toArray]
            try simp only [List.set_cons_succ]
            try simp only [List.set_cons_zero]
            refine wpAnyH_ready (rs := [0]) (by kernel_rfl) (by simp) ?_
            refine AllReadyH.cons (o := ?_) ?_ (fun K hK => ?_) AllReadyH.nil
            rotate_left
            focus (simp only [List.getElem?_toArray, List.getElem?_cons_zero]; rfl)
            rw [if_pos (by rfl)]
            go_simp
            have hr0 := rowN_empty (W := u0) (B := u0.heap.size) (Nat.le_refl _)
            have hb1 : Below u0.heap.size u0 (u0.alloc (.cells #[] 35)) := (Below.refl _ _).alloc (Nat.le_refl _) _
            obtain ⟨v0, hv0⟩ : ∃ v, v = Value.slice (some ⟨u0.heap.size, 0, none⟩) 0 0 := ⟨_, rfl⟩
            obtain ⟨u1, hu1⟩ : ∃ u, u = u0.alloc (.cells #[] 35) := ⟨_, rfl⟩
            rw [← hv0, ← hu1] at hr0
            rw [← hu1] at hb1
            rw [← hv0, ← hu1]
            have HR0 := Lib.hid hr0
            have HU1 := Lib.hid hb1
            clear hr0 hb1 hv0 hu1
            refine hK.out _ _ ⟨HU1.out, trivial⟩ (fun hHeld => ?_)
            clear hK K
            try simp only [Act.put]
            try simp only [List.setIfInBounds_toArray]
            try simp only [List.set_cons_succ]
            try simp only [List.set_cons_zero]
            refine wpAnyH_ready (rs := [4]) (by kernel_rfl) (by simp) ?_
            refine AllReadyH.cons (o := ?_) ?_ (fun K hK => ?_) AllReadyH.nil
            rotate_left
            focus (simp only [List.getElem?_toArray, List.getElem?_cons_succ, List.getElem?_cons_zero]; rfl)
            rw [if_pos (by rfl)]
            obtain ⟨v1, u2, hrun, hr1, hg1⟩ := run_appN (c := c) HR0.out (by simp) HU1.out.size (zs := l.take k) (by rw [List.length_take]; omega) (take_cells (fun i h => by
              obtain ⟨h1, h2, h3⟩ := HCC.out i h
              have hbx := HB9.out.trans (HU1.out.mono HB9.out.size)
              exact ⟨Nat.lt_of_lt_of_le h1 hbx.size, stays hbx h2, stays hbx h3⟩) k)
            rw [List.length_take, Nat.min_eq_left (Nat.le_of_lt hkl)] at hrun
            rw [List.nil_append] at hr1
            refine wp_append_run13 rfl rfl rfl hrun ?_
            have HU2 := Lib.hid (HR0.out.grown HU1.out HU1.out.size hg1)
            have HR1 := Lib.hid hr1
            clear hrun hr1 hg1
            refine hK.out _ _ ⟨HU2.out, trivial⟩ (fun hHeld => ?_)
            clear hK K
            try simp only [Act.put]
            try simp only [List.setIfInBounds_toArray]
            try simp only [List.set_cons_succ]
            try simp only [List.set_cons_zero]
            refine wpAnyH_ready (rs := [9]) (by kernel_rfl) (by simp) ?_
            refine AllReadyH.cons (o := ?_) ?_ (fun K hK => ?_) AllReadyH.nil
            rotate_left
            focus (simp only [List.getElem?_toArray, List.getElem?_cons_succ, List.getElem?_cons_zero]; rfl)
            rw [if_pos (by rfl)]
            obtain ⟨v2, u3, hrun, hr2, hg2⟩ := run_appN (c := c - k1) HR1.out (by rw [List.length_take]; omega) HU2.out.size (zs := l.drop k1) (by rw [List.length_drop]; omega) (HXC.out u2 (HB9.out.trans (HU2.out.mono HB9.out.size)))
            rw [List.length_drop] at hrun
            refine wp_append_run13 rfl rfl rfl hrun ?_
            have HU3 := Lib.hid (HR1.out.grown HU2.out HU2.out.size hg2)
            obtain ⟨a2, c2, rfl⟩ := hr2.shape
            have hN3 : NodesF u3 a2 (l.take k ++ l.drop k1) := (hr2.read fun v hv => ((HEA.out v (by
              rcases List.mem_append.1 hv with hv | hv
              · exact List.mem_of_mem_take hv
              · exact List.mem_of_mem_drop hv)).below HB9.out).below HU3.out).1
            have hk1e := HK1.out
            have hl3 : (l.take k ++ l.drop k1).length ≤ 1000 := by rw [List.length_append, List.length_take, List.length_drop]; omega
            have hC := order_any (c := c2) hN3 hl3 (fun v hv => HD2.out v (by
              rcases List.mem_append.1 hv with hv | hv
              · exact List.mem_of_mem_take hv
              · exact List.mem_of_mem_drop hv))
            have hk' : k < (rowOf l).length := by rw [rowOf_len]; exact hkl
            have hkd : (rowOf l)[k].1 = d := by rw [rowOf_at hkl]; exact HDD.out
            have hno : ∀ z, ¬ Gr.Edge (rowOf l) z (rowOf l)[k].1 := by rw [hkd]; exact HNO.out
            have hlm := may_iff.2 (less_may HMAY.out hk' hno)
            have hlo := less_order HMAY.out hk' hno
            rw [hkd, HOO.out] at hlo
            rw [HK1.out, rowOf_erase, hlm, ordOf_ok hlm, hlo] at hC
            rw [← HK1.out] at hC
            obtain ⟨n2, hn2⟩ : ∃ n2, (l.take k ++ l.drop k1).length = n2 := ⟨_, rfl⟩
            rw [hn2] at hC
            rw [hn2]
            obtain ⟨p, hp⟩ : ∃ p, o.filter (fun x => decide (x ≠ d)) = p := ⟨_, rfl⟩
            rw [hp] at hC
            have HPP := Lib.hid hp
            have HC0 := Lib.hid hC
            clear hrun hr2 hg2 hN3 hl3 hk1e hC hk' hkd hno hlm hlo hn2 hp
            refine hK.out _ _ ⟨HU3.out, trivial⟩ (fun hHeld => ?_)
            clear hK K
            try simp only [Act.put]
            try simp only [List.setIfInBounds_toArray]
            try simp only [List.set_cons_succ]
            try simp only [List.set_cons_zero]
            refine wpAnyH_ready (rs := [10]) (by kernel_rfl) (by simp) ?_
            refine AllReadyH.cons (o := ?_) ?_ (fun K hK => ?_) AllReadyH.nil
            rotate_left
            focus (simp only [List.getElem?_toArray, List.getElem?_cons_succ, List.getElem?_cons_zero]; rfl)
            rw [if_pos (by rfl)]
            go_simp
            refine HC0.out.mono ?_
            rintro e u4 ⟨v, rfl, hrow, hb⟩
            obtain ⟨aq, cq, rfl⟩ := hrow.shape
            have HU4 := Lib.hid (HU3.out.trans (hb.mono HU3.out.size))
            have hpf : ∀ z ∈ p, U64 z := fun z hz => by
              rw [← HPP.out] at hz
              exact HOF.out z (List.mem_filter.1 hz).1
            have HPF := Lib.hid hpf
            have HQ := Lib.hid (hrow.read hpf).1
            clear hrow hb hpf HC0
            go_wp2_with fail
            refine hK.out _ _ ⟨HU4.out, trivial⟩ (fun hHeld => ?_)
            clear hK K
            try simp only [Act.put]
            try simp only [List.setIfInBounds_toArray]
            try simp only [List.set_cons_succ]
            try simp only [List.set_cons_zero]
            refine wpAnyH_take (i := 11) (oi := ?_) (v := ?_) ?_ (by kernel_rfl) (by kernel_rfl) (by kernel_rfl) ?_ (Or.inl ⟨?_, ?_⟩) (by assumption) ?_
            rotate_left 2
            focus (simp only [List.getElem?_toArray, List.getElem?_cons_succ, List.getElem?_cons_zero]; rfl)
            focus exact fun _ _ _ h => h
            focus rfl
            focus (intro W hS; (try dsimp only at hS); have q1 := hS.1; have q2 := hS.2; go_simp; (try with_reducible rfl))
            try simp only [Act.put]
            try simp only [List.setIfInBounds_toArray]
            try simp only [List.set_cons_succ]
            try simp only [List.set_cons_zero]
            refine wpAnyH_take (i := 12) (oi := ?_) (v := ?_) ?_ (by kernel_rfl) (by kernel_rfl) (by kernel_rfl) ?_ (Or.inl ⟨?_, ?_⟩) (by assumption) ?_
            rotate_left 2
            focus (simp only [List.getElem?_toArray, List.getElem?_cons_succ, List.getElem?_cons_zero]; rfl)
            focus exact fun _ _ _ h => h
            focus rfl
            focus (intro W hS; (try dsimp only at hS); have q1 := hS.1; have q2 := hS.2; go_simp; (try with_reducible rfl))
            try simp only [Act.put]
            try simp only [List.setIfInBounds_toArray]
            try simp only [List.set_cons_succ]
            try simp only [List.set_cons_zero]
            refine wpAnyH_take (i := 13) (oi := ?_) (v := ?_) ?_ (by kernel_rfl) (by kernel_rfl) (by kernel_rfl) ?_ (Or.inl ⟨?_, ?_⟩) (by assumption) ?_
            rotate_left 2
            focus (simp only [List.getElem?_toArray, List.getElem?_cons_succ, List.getElem?_cons_zero]; rfl)
            focus exact fun _ _ _ h => h
            focus rfl
            focus (intro W hS; (try dsimp only at hS); have q1 := hS.1; have q2 := hS.2; go_simp; (try with_reducible rfl))
            try simp only [Act.put]
            try simp only [List.setIfInBounds_toArray]
            try simp only [List.set_cons_succ]
            try simp only [List.set_cons_zero]
            refine wpAnyH_take (i := 14) (oi := ?_) (v := ?_) ?_ (by kernel_rfl) (by kernel_rfl) (by kernel_rfl) ?_ (Or.inl ⟨?_, ?_⟩) (by assumption) ?_
            rotate_left 2
            focus (simp only [List.getElem?_toArray, List.getElem?_cons_succ, List.getElem?_cons_zero]; rfl)
            focus exact fun _ _ _ h => h
            focus rfl
            focus (intro W hS; (try dsimp only at hS); have q1 := hS.1; have q2 := hS.2; go_simp; (try with_reducible rfl))
            try simp only [Act.put]
            try simp only [List.setIfInBounds_toArray]
            try simp only [List.set_cons_succ]
            try simp only [List.set_cons_zero]
            refine wpAnyH_take (i := 15) (oi := ?_) (v := ?_) ?_ (by kernel_rfl) (by kernel_rfl) (by kernel_rfl) ?_ (Or.inl ⟨?_, ?_⟩) (by assumption) ?_
            rotate_left 2
            focus (simp only [List.getElem?_toArray, List.getElem?_cons_succ, List.getElem?_cons_zero]; rfl)
            focus exact fun _ _ _ h => h
            focus rfl
            focus (intro W hS; (try dsimp only at hS); have q1 := hS.1; have q2 := hS.2; go_simp; (try with_reducible rfl))
            try simp only [Act.put]
            try simp only [List.setIfInBounds_toArray]
            try simp only [List.set_cons_succ]
            try simp only [List.set_cons_zero]
            refine wpAnyH_done (by kernel_rfl) ?_ _
            have HV10 := Lib.hid (HV9.out.below HU4.out)
            have HC10 := Lib.hid (HC9.out.trans (HU4.out.mono HC9.out.size))
            have HB10 := Lib.hid (HB9.out.trans (HU4.out.mono HB9.out.size))
            obtain ⟨i0, hi0, hy0, hy1, hy2⟩ := info_parts infoU64
            have hol : o.length ≤ 70 := by rw [HOE.out]; exact hl
            clear HU1 HU2 HU3 HR0 HR1 hHeld HXC hxe2 hwk hk1n HV9 HC9 HB9 HU4
            go_wp2_with fail
            go_loopw [15, 16] (fun v5 v6 wr => ∃ i : Nat, v6 = .int .i64 (i : Int) ∧ i ≤ o.length ∧ RowU u4.heap.size v5 (without (o.take i) d) wr ∧ Below u4.heap.size u4 wr) (fun _ v _ => o.length - (intOf v).toNat)
            case atStart => exact ⟨0, rfl, Nat.zero_le _, RowU.nil _ _, Below.refl _ _⟩
            case round =>
              obtain ⟨i, rfl, hi, hrow, hb⟩ := hrel
              obtain ⟨oa, oc, rfl⟩ := hrow.shape
              have HROW := Lib.hid hrow
              have HBW := Lib.hid hb
              clear hrow hb
              by_cases hlt : i < o.length
              · obtain ⟨⟨g, r, hga, hgc⟩, _⟩ := HV10.out
                obtain ⟨hgl, hgx⟩ := hgc i hlt
                cases hga (by intro e; subst e; simp at hlt)
                have hd1 := (HBW.out.cell (p := ⟨g, r + i, none⟩) hgl).trans hgx
                have hd2 : wr.cell? ⟨eb, q + k * 2, none⟩ = some (.int .u64 d) := by
                  obtain ⟨_, h, _⟩ := HCC.out k hkl
                  rw [HDD.out] at h
                  exact stays HBW.out (stays HB10.out h)
                have hd : decide ((i : Int) < (o.length : Int)) = true := by simp; omega
                have hnx := without_next o d hlt
                have hlw := without_len (o.take i) d
                rw [List.length_take] at hlw
                obtain ⟨ws, hws⟩ : ∃ ws, without (o.take i) d = ws := ⟨_, rfl⟩
                rw [hws] at HROW hnx hlw
                rw [hws]
                obtain ⟨z, hz⟩ : ∃ z, o[i] = z := ⟨_, rfl⟩
                rw [hz] at hd1 hnx
                have HNX := Lib.hid hnx
                clear hgc hga hgx hnx hz hws
                by_cases hzd : z = d
                · have hzd2 : (z == d) = true := by simpa using hzd
                  go_wp2_with fail
                  go_quiet (fail)
                  go_wp2
                  go_roundw
                  case rel => exact ⟨i + 1, by go_num, by omega, by rw [HNX.out, if_pos hzd, List.append_nil]; exact HROW.out.below (bel_drewN (Below.refl _ _) _), bel_drewN HBW.out _⟩
                  case measure => simp [intOf]; omega
                · have hzd2 : (z == d) = false := by simpa using hzd
                  go_wp2_with fail
                  go_quiet (fail)
                  obtain ⟨wq, hwq⟩ : ∃ wq, wq = wr.drewN nq := ⟨_, rfl⟩
                  have hbq : Below wr.heap.size wr wq := by rw [hwq]; exact bel_drewN (Below.refl _ _) _
                  have e1 := stays hbq hd1
                  have hrq := HROW.out.below hbq
                  have hown := hrq.own
                  have hbq2 := HBW.out.trans (hbq.mono HBW.out.size)
                  have hqs := hbq2.size
                  have HBQ := Lib.hid hbq2
                  have HRQ := Lib.hid hrq
                  rw [← hwq]
                  clear hwq hbq hbq2 hrq hd1 hd2 HROW HBW
                  go_wp2_with (at_builtin; refine wpList_append_own _ rfl _ _ 26 rfl u4.heap.size 23 i0 (.int .u64 0) 1 8 Try.underlying26 hi0 hy0 hy1 hy2 rfl (by decide) _ _ _ rfl (hown.alloc _) ⟨wq.heap.size, 0, none⟩ 1 1 [.int .u64 z] rfl rfl (cell_one_new _ _ _) (by simp [Value.oneCell']) (by unfold maxLen; omega) (by omega) (by simp; omega) ?_)
                  intro v' w9 hown' hgrow _
                  have hbl : Below wq.heap.size wq (wq.alloc (.cells #[.int .u64 z] 23)) := (Below.refl _ _).alloc (Nat.le_refl _) _
                  have hr9 := RowU.snoc hown'
                  have hb9 := (HRQ.out.below hbl).grown (HBQ.out.trans (hbl.mono HBQ.out.size)) (by simp; omega) hgrow
                  have HR9 := Lib.hid hr9
                  have HB9 := Lib.hid hb9
                  clear hown' hgrow hbl hr9 hb9 hown
                  go_wp2
                  go_roundw
                  case rel => exact ⟨i + 1, by go_num, by omega, by rw [HNX.out, if_neg hzd]; exact HR9.out, HB9.out⟩
                  case measure => simp [intOf]; omega
              · obtain rfl : i = o.length := by omega
                have hd : decide ((o.length : Int) < (o.length : Int)) = false := by simp
                have hpw : without (o.take o.length) d = p := by rw [List.take_length]; exact HPP.out
                rw [hpw] at HROW
                rw [hpw]
                have hpl : p.length ≤ 1000000 := by
                  rw [← HPP.out]
                  have := List.length_filter_le (fun x => decide (x ≠ d)) o
                  omega
                have hC := refSame_any (c := cq) (d := oc) (HQ.out.below HBW.out) (HROW.out.read HPF.out).1 hpl
                rw [show decide (p = p) = true by simp] at hC
                have HSM := Lib.hid hC
                have HC11 := Lib.hid (HC10.out.trans (HBW.out.mono HC10.out.size))
                clear hpw hpl hC HROW HBW
                go_wp2_with fail
                refine HSM.out.mono ?_
                rintro e w12 ⟨rfl, hdr⟩
                have HC12 := Lib.hid (HC11.out.trans (hdr.bel.mono HC11.out.size))
                clear HSM hdr
                go_wp2_with fail
                go_ret
                exact ⟨by first | rfl | trivial, HC12.out⟩

end Go.Proofs.Ythbaldjdfehhlaa
