/- Users of package graph, by its contract. -/
import Derived.Test.YthbaldjdfehhlaaTwice13
import Derived.Test.YthbaldjdfehhlaaRefUsers13
namespace Go.Proofs.Ythbaldjdfehhlaa
open Go.RowKit Gr Go.Sort Go.Shelf Go.Lib Go.Maps

theorem containsU_any {w : World} {a : Option Addr} {zs : List Int} {c : Nat} (hz : NumsF w a zs) (hl : zs.length ≤ 1000000) (x : Int) :
    Calls Try.prog 24 #[.slice a zs.length c, .int .u64 x] w fun e w' => e = .returned (.bool (zs.contains x)) ∧ w' = w := by
  obtain ⟨⟨g, q, ha, hc⟩, hfit⟩ := hz
  by_cases hne : zs = []
  · subst hne
    exact Try.slices_Contains_empty (α := Int) a c _ w
  · have ea := ha hne
    subst ea
    have h := Try.slices_Contains (Value.int .u64) (fun x y => x == y) (EqlAt.int _ _ _) g q zs.length c zs x w (Nat.le_refl _) (by omega) (fun j hj => by
      rw [getElem!_pos zs j hj]
      exact (hc j hj).2)
    refine h.mono ?_
    rintro e w' ⟨rfl, rfl⟩
    rw [List.take_length]
    refine ⟨?_, rfl⟩
    congr 2
    rw [Bool.eq_iff_iff, List.any_eq_true, List.contains_iff_mem]
    constructor
    · rintro ⟨y, hy, e⟩
      rw [beq_iff_eq] at e
      exact e ▸ hy
    · exact fun h => ⟨x, h, by simp⟩

/-- who waits for id, as they are told -/
def waiters (l : List NodeV) (id : Int) : List Int := (l.filter fun v => v.deps.contains id).map (·.id)
theorem waiters_snoc (l : List NodeV) (v : NodeV) (id : Int) : waiters (l ++ [v]) id = waiters l id ++ (if v.deps.contains id then [v.id] else []) := by
  unfold waiters
  rw [List.filter_append, List.map_append]
  congr 1
  cases h : v.deps.contains id <;> simp at h <;> simp [h]
theorem mem_waiters {l : List NodeV} {id x : Int} : x ∈ waiters l id ↔ Gr.Edge (rowOf l) x id := by
  rw [edge_iff]
  simp only [waiters, List.mem_map, List.mem_filter, List.contains_iff_mem]
  exact ⟨fun ⟨v, ⟨h1, h2⟩, h3⟩ => ⟨v, h1, h3, h2⟩, fun ⟨v, h1, h3, h2⟩ => ⟨v, ⟨h1, h2⟩, h3⟩⟩
theorem waiters_len (l : List NodeV) (id : Int) : (waiters l id).length ≤ l.length := by
  unfold waiters
  rw [List.length_map]
  exact List.length_filter_le _ _
theorem waiters_users (l : List NodeV) (id : Int) : cpt (sorted (waiters l id)) = usersOf (rowOf l) id :=
  IsUsers.eq ⟨cpt_rise (sorted_le _), fun _ => (mem_cpt (sorted_le _)).trans ((sorted_perm _).mem_iff.trans mem_waiters)⟩

set_option maxRecDepth 100000 in
set_option maxHeartbeats 4000000 in
theorem users_any {w : World} {a : Option Addr} {l : List NodeV} {c : Nat} (hN : NodesF w a l) (hl : l.length ≤ 1000) (hdl : ∀ v ∈ l, v.deps.length ≤ 100000) (id : Int) :
    Calls Try.prog 13 #[.slice a l.length c, .int .u64 id] w fun e w' => ∃ v, e = .returned v ∧ RowU w.heap.size v (useOf (rowOf l) id) w' ∧ Below w.heap.size w w' := by
  obtain ⟨i0, hi0, hz0, hz1, hz2⟩ := info_parts infoU64
  by_cases h64 : l.length ≤ 64
  · have hg64 : decide ((64 : Int) < (l.length : Int)) = false := by simp; omega
    have HOK := Lib.hid (show useOf (rowOf l) id = cpt (sorted (waiters l id)) by rw [waiters_users]; unfold useOf; rw [rowOf_len, if_pos h64])
    obtain ⟨⟨b0, q, ha, hc⟩, heach⟩ := hN
    have HA := Lib.hid ha
    have HC := Lib.hid hc
    have HE := Lib.hid heach
    have HD := Lib.hid hdl
    clear ha hc heach hdl
    go_enter Try.func13, Try.ntmps13
    go_wp2
    go_loopw [5, 13] (fun v5 v wr => ∃ i : Nat, v = .int .i64 (i : Int) ∧ i ≤ l.length ∧ RowU w.heap.size v5 (waiters (l.take i) id) wr ∧ Below w.heap.size w wr) (fun _ v _ => l.length - (intOf v).toNat)
    case atStart => exact ⟨0, rfl, Nat.zero_le _, RowU.nil _ _, Below.refl _ _⟩
    case round =>
      obtain ⟨i, rfl, hi, hrow, hbel⟩ := hrel
      obtain ⟨oa, oc, rfl⟩ := hrow.shape
      have HROW := Lib.hid hrow
      have HB := Lib.hid hbel
      clear hrow hbel
      by_cases hlt : i < l.length
      · obtain ⟨hg, hc1, hc2⟩ := HC.out i hlt
        have ea := HA.out (by intro e; subst e; simp at hlt)
        cases ea
        have hd1 := (HB.out.cell (p := ⟨b0, q + i * 2, none⟩) hg).trans hc1
        have hd2 := (HB.out.cell (p := ⟨b0, q + i * 2 + 1, none⟩) hg).trans hc2
        have hd : decide ((i : Int) < (l.length : Int)) = true := by simp; omega
        have htk : l.take (i + 1) = l.take i ++ [l[i]] := List.take_succ_eq_append_getElem hlt
        have hv2 := HE.out l[i] (List.getElem_mem hlt)
        have hvd := HD.out l[i] (List.getElem_mem hlt)
        obtain ⟨v, hv⟩ : ∃ v, l[i] = v := ⟨_, rfl⟩
        rw [hv] at hd1 hd2 hv2 hvd htk
        have hws := waiters_snoc (l.take i) v id
        rw [← htk] at hws
        have hbA : Below wr.heap.size wr (wr.alloc (.cells #[.int .u64 v.id, .slice v.da v.deps.length v.dc] 35)) := (Below.refl _ _).alloc (Nat.le_refl _) _
        have hC := containsU_any (c := v.dc) ((hv2.deps.below HB.out).below hbA) (by omega) id
        have hwl := waiters_len (l.take i) id
        rw [List.length_take] at hwl
        obtain ⟨ws, hwsn⟩ : ∃ ws, ws = waiters (l.take i) id := ⟨_, rfl⟩
        rw [← hwsn] at HROW hws hwl ⊢
        obtain ⟨s, hs⟩ : ∃ s, s = v.deps.contains id := ⟨_, rfl⟩
        rw [← hs] at hC hws
        have HCC := Lib.hid hC
        have HWS := Lib.hid hws
        have hrowA := HROW.out.below hbA
        have hbelA := HB.out.trans (hbA.mono HB.out.size)
        have hown := hrowA.own
        have hszw := hbelA.size
        simp only [World.size_alloc] at hszw
        have HROWA := Lib.hid hrowA
        have HBA := Lib.hid hbelA
        clear hv hc1 hc2 hv2 htk hws hbA hC hs hrowA hbelA hwsn
        cases s with
        | false =>
          go_wp2_with fail
          refine HCC.out.mono ?_
          rintro e w1 ⟨rfl, rfl⟩
          go_wp2
          go_roundw
          case rel => exact ⟨i + 1, by go_num, by omega, by rw [HWS.out]; simpa using HROWA.out, HBA.out⟩
          case measure => simp [intOf]; omega
        | true =>
          go_wp2_with fail
          refine HCC.out.mono ?_
          rintro e w1 ⟨rfl, rfl⟩
          go_wp2_with (at_builtin; refine wpList_append_own _ rfl _ _ 26 rfl w.heap.size 23 i0 (.int .u64 0) 1 8 Try.underlying26 hi0 hz0 hz1 hz2 rfl (by decide) _ _ _ rfl (hown.alloc _) ⟨wr.heap.size + 1, 0, none⟩ 1 1 [.int .u64 v.id] rfl rfl (by have h := cell_one_new (wr.alloc (.cells #[.int .u64 v.id, .slice v.da v.deps.length v.dc] 35)) (.int .u64 v.id) 23; simp only [World.size_alloc] at h; exact h) (by simp [Value.oneCell']) (by unfold maxLen; omega) (by omega) (by simp; omega) ?_)
          intro v' w6 hown' hgrow _
          have hbl : Below (wr.alloc (.cells #[.int .u64 v.id, .slice v.da v.deps.length v.dc] 35)).heap.size (wr.alloc (.cells #[.int .u64 v.id, .slice v.da v.deps.length v.dc] 35)) ((wr.alloc (.cells #[.int .u64 v.id, .slice v.da v.deps.length v.dc] 35)).alloc (.cells #[.int .u64 v.id] 23)) := (Below.refl _ _).alloc (Nat.le_refl _) _
          have hr6 := RowU.snoc hown'
          have hb6 : Below w.heap.size w w6 := (HROWA.out.below hbl).grown (HBA.out.trans (hbl.mono HBA.out.size)) (by simp; omega) hgrow
          have HR6 := Lib.hid hr6
          have HB6 := Lib.hid hb6
          clear hown' hgrow hbl hr6 hb6 hown
          go_wp2
          go_roundw
          case rel => exact ⟨i + 1, by go_num, by omega, by rw [HWS.out]; exact HR6.out, HB6.out⟩
          case measure => simp [intOf]; omega
      · obtain rfl : i = l.length := by omega
        have hd : decide ((l.length : Int) < (l.length : Int)) = false := by simp
        rw [List.take_length] at HROW ⊢
        have hwl := waiters_len l id
        obtain ⟨us, hus⟩ : ∃ us, us = waiters l id := ⟨_, rfl⟩
        rw [← hus] at HROW HOK hwl ⊢
        have hso := sort_own HROW.out.own (by omega)
        have HSO := Lib.hid hso
        clear hus hso
        go_wp2_with fail
        refine HSO.out.mono ?_
        rintro e w2 ⟨rfl, hrow2, hg2⟩
        have hsl := sorted_len us
        have hr2 : RowU w.heap.size (.slice oa (sorted us).length oc) (sorted us) w2 := ⟨by rw [hsl]; exact hrow2⟩
        have hcm := compactU_any hr2 (by omega)
        rw [hsl] at hcm
        have HCM := Lib.hid hcm
        have HB2 := Lib.hid (HROW.out.grown HB.out HB.out.size hg2)
        have HR2 := Lib.hid hr2
        clear hrow2 hg2 hcm hr2
        go_wp2_with fail
        refine HCM.out.mono ?_
        rintro e w3 ⟨rfl, hrow3, hg3⟩
        have HR3 := Lib.hid hrow3
        have HB3 := Lib.hid (HB2.out.grown hg3 HB2.out.size fun k e => by
          have h := HR2.out.lt k
          rw [hsl] at h
          exact (h e).1)
        clear hrow3 hg3
        go_wp2
        go_ret
        exact ⟨_, rfl, by rw [HOK.out]; exact HR3.out, HB3.out⟩
  · have hg64 : decide ((64 : Int) < (l.length : Int)) = true := by simp; omega
    have HNO := Lib.hid (show useOf (rowOf l) id = [] by unfold useOf; rw [rowOf_len, if_neg h64])
    clear hN hdl
    go_enter Try.func13, Try.ntmps13
    go_wp2
    go_ret
    exact ⟨_, rfl, by rw [HNO.out]; exact RowU.nil _ _, Below.refl _ _⟩

end Go.Proofs.Ythbaldjdfehhlaa
