/- The reference's Users, by its contract. Users of package graph, by its contract. Add, by its contract. -/
import Derived.Test.YtpbnjibomdilhaaGreatDoorMau
import Derived.Test.YtpbnjibomdilhaaGreatDoorGTwice13
import Derived.Test.YtpbnjibomdilhaaGreatDoorMas
import Derived.Test.YtpbnjibomdilhaaGreatDoorGOrd13
namespace Go.Proofs.YtpbnjibomdilhaaGreatDoor.Gph
open Go.RowKit Gr Go.Sort

def useOf (L : Row) (id : Int) : List Int := if L.length ≤ 64 then usersOf L id else []
theorem useOf_fit {l : List NodeV} (h : ∀ v ∈ l, U64 v.id) (id : Int) : ∀ x ∈ useOf (rowOf l) id, U64 x := fun x hx => by
  unfold useOf at hx
  split at hx
  · obtain ⟨v, hv, rfl, _⟩ := edge_iff.1 (((users_is _ id).mem x).1 hx)
    exact h v hv
  · cases hx
/-- users that have been told: the least ones -/
structure Told (L : Row) (id : Int) (out : List Int) : Prop where
  rise : out.Pairwise (· < ·)
  use : ∀ x ∈ out, Gr.Edge L x id
  rest : ∀ u, Gr.Edge L u id → u ∉ out → ∀ x ∈ out, x < u
theorem Told.start (L : Row) (id : Int) : Told L id [] := ⟨List.Pairwise.nil, (fun x hx => by cases hx), fun u _ _ x hx => by cases hx⟩
theorem Told.nodup {L : Row} {id : Int} {out : List Int} (h : Told L id out) : out.Nodup := h.rise.imp fun hab e => by omega
theorem Told.len {L : Row} {id : Int} {out : List Int} (h : Told L id out) : out.length ≤ L.length := by
  have := nodup_le (l := ids L) h.nodup fun x hx => (h.use x hx).head
  simpa [ids] using this
theorem Told.next {L : Row} {id : Int} {out : List Int} (h : Told L id out) {x : Int} (hx : Gr.Edge L x id) (hn : x ∉ out) (hle : ∀ u, Gr.Edge L u id → u ∉ out → x ≤ u) : Told L id (out ++ [x]) := by
  refine ⟨List.pairwise_append.2 ⟨h.rise, by simp, fun a ha b hb => ?_⟩, fun y hy => ?_, fun u hu hun y hy => ?_⟩
  · simp at hb
    subst hb
    exact h.rest _ hx hn a ha
  · rcases List.mem_append.1 hy with hy | hy
    · exact h.use y hy
    · simp at hy; subst hy; exact hx
  · have hu1 : u ∉ out := fun h => hun (List.mem_append.2 (.inl h))
    have hu2 : u ≠ x := fun h => hun (List.mem_append.2 (.inr (by simp [h])))
    rcases List.mem_append.1 hy with hy | hy
    · exact h.rest u hu hu1 y hy
    · simp at hy
      subst hy
      have := hle u hu hu1
      omega
theorem Told.all {L : Row} {id : Int} {out : List Int} (h : Told L id out) (hall : ∀ u, Gr.Edge L u id → u ∈ out) : out = usersOf L id :=
  IsUsers.eq ⟨h.rise, fun x => ⟨h.use x, hall x⟩⟩

def wants (id : Int) (out : List Int) (v : NodeV) : Bool := v.deps.contains id && !out.contains v.id
theorem wants_iff {id : Int} {out : List Int} {v : NodeV} : wants id out v = true ↔ id ∈ v.deps ∧ v.id ∉ out := by simp [wants]

end Go.Proofs.YtpbnjibomdilhaaGreatDoor.Gph

namespace Go.Proofs.YtpbnjibomdilhaaGreatDoor.Gph
open Go.RowKit Gr Go.Sort Go.Shelf Go.Lib Go.Maps

theorem containsU_any {w : World} {a : Option Addr} {zs : List Int} {c : Nat} (hz : NumsF w a zs) (hl : zs.length ≤ 1000000) (x : Int) :
    Calls Tryz.prog 45 #[.slice a zs.length c, .int .u64 x] w fun e w' => e = .returned (.bool (zs.contains x)) ∧ w' = w := by
  obtain ⟨⟨g, q, ha, hc⟩, hfit⟩ := hz
  by_cases hne : zs = []
  · subst hne
    exact Tryz.slices_Contains_empty_f45 (α := Int) a c _ w
  · have ea := ha hne
    subst ea
    have h := Tryz.slices_Contains_f45 (Value.int .u64) (fun x y => x == y) (EqlAt.int _ _ _) g q zs.length c zs x w (Nat.le_refl _) (by omega) (fun j hj => by
      rw [getElem!_pos zs j hj]
      exact (hc j hj).2)
    refine h.mono ?_
    rintro e w' ⟨rfl, rfl⟩
    rw [List.take_length]
    refine ⟨?_, rfl⟩
    congr 2
    rw [Bool.eq_iff_iff, List.any_eq_true, List.contains_iff_mem]
    constructor
    · rintro ⟨y, hy, e⟩
      rw [beq_iff_eq] at e
      exact e ▸ hy
    · exact fun h => ⟨x, h, by simp⟩

/-- who waits for id, as they are told -/
def waiters (l : List NodeV) (id : Int) : List Int := (l.filter fun v => v.deps.contains id).map (·.id)
theorem waiters_snoc (l : List NodeV) (v : NodeV) (id : Int) : waiters (l ++ [v]) id = waiters l id ++ (if v.deps.contains id then [v.id] else []) := by
  unfold waiters
  rw [List.filter_append, List.map_append]
  congr 1
  cases h : v.deps.contains id <;> simp at h <;> simp [h]
theorem mem_waiters {l : List NodeV} {id x : Int} : x ∈ waiters l id ↔ Gr.Edge (rowOf l) x id := by
  rw [edge_iff]
  simp only [waiters, List.mem_map, List.mem_filter, List.contains_iff_mem]
  exact ⟨fun ⟨v, ⟨h1, h2⟩, h3⟩ => ⟨v, h1, h3, h2⟩, fun ⟨v, h1, h3, h2⟩ => ⟨v, ⟨h1, h2⟩, h3⟩⟩
theorem waiters_len (l : List NodeV) (id : Int) : (waiters l id).length ≤ l.length := by
  unfold waiters
  rw [List.length_map]
  exact List.length_filter_le _ _
theorem waiters_users (l : List NodeV) (id : Int) : cpt (sorted (waiters l id)) = usersOf (rowOf l) id :=
  IsUsers.eq ⟨cpt_rise (sorted_le _), fun _ => (mem_cpt (sorted_le _)).trans ((sorted_perm _).mem_iff.trans mem_waiters)⟩

set_option maxRecDepth 100000 in
set_option maxHeartbeats 4000000 in
theorem users_any {w : World} {a : Option Addr} {l : List NodeV} {c : Nat} (hN : NodesF w a l) (hl : l.length ≤ 1000) (hdl : ∀ v ∈ l, v.deps.length ≤ 100000) (id : Int) :
    Calls Tryz.prog 29 #[.slice a l.length c, .int .u64 id] w fun e w' => ∃ v, e = .returned v ∧ RowU w.heap.size v (useOf (rowOf l) id) w' ∧ Below w.heap.size w w' := by
  obtain ⟨i0, hi0, hz0, hz1, hz2⟩ := info_parts infoU64
  by_cases h64 : l.length ≤ 64
  · have hg64 : decide ((64 : Int) < (l.length : Int)) = false := by simp; omega
    have HOK := Lib.hid (show useOf (rowOf l) id = cpt (sorted (waiters l id)) by rw [waiters_users]; unfold useOf; rw [rowOf_len, if_pos h64])
    obtain ⟨⟨b0, q, ha, hc⟩, heach⟩ := hN
    have HA := Lib.hid ha
    have HC := Lib.hid hc
    have HE := Lib.hid heach
    have HD := Lib.hid hdl
    clear ha hc heach hdl
    go_enter Tryz.func29, Tryz.ntmps29
    go_wp2
    go_loopw [5, 13] (fun v5 v wr => ∃ i : Nat, v = .int .i64 (i : Int) ∧ i ≤ l.length ∧ RowU w.heap.size v5 (waiters (l.take i) id) wr ∧ Below w.heap.size w wr) (fun _ v _ => l.length - (intOf v).toNat)
    case atStart => exact ⟨0, rfl, Nat.zero_le _, RowU.nil _ _, Below.refl _ _⟩
    case round =>
      obtain ⟨i, rfl, hi, hrow, hbel⟩ := hrel
      obtain ⟨oa, oc, rfl⟩ := hrow.shape
      have HROW := Lib.hid hrow
      have HB := Lib.hid hbel
      clear hrow hbel
      by_cases hlt : i < l.length
      · obtain ⟨hg, hc1, hc2⟩ := HC.out i hlt
        have ea := HA.out (by intro e; subst e; simp at hlt)
        cases ea
        have hd1 := (HB.out.cell (p := ⟨b0, q + i * 2, none⟩) hg).trans hc1
        have hd2 := (HB.out.cell (p := ⟨b0, q + i * 2 + 1, none⟩) hg).trans hc2
        have hd : decide ((i : Int) < (l.length : Int)) = true := by simp; omega
        have htk : l.take (i + 1) = l.take i ++ [l[i]] := List.take_succ_eq_append_getElem hlt
        have hv2 := HE.out l[i] (List.getElem_mem hlt)
        have hvd := HD.out l[i] (List.getElem_mem hlt)
        obtain ⟨v, hv⟩ : ∃ v, l[i] = v := ⟨_, rfl⟩
        rw [hv] at hd1 hd2 hv2 hvd htk
        have hws := waiters_snoc (l.take i) v id
        rw [← htk] at hws
        have hbA : Below wr.heap.size wr (wr.alloc (.cells #[.int .u64 v.id, .slice v.da v.deps.length v.dc] 72)) := (Below.refl _ _).alloc (Nat.le_refl _) _
        have hC := containsU_any (c := v.dc) ((hv2.deps.below HB.out).below hbA) (by omega) id
        have hwl := waiters_len (l.take i) id
        rw [List.length_take] at hwl
        obtain ⟨ws, hwsn⟩ : ∃ ws, ws = waiters (l.take i) id := ⟨_, rfl⟩
        rw [← hwsn] at HROW hws hwl ⊢
        obtain ⟨s, hs⟩ : ∃ s, s = v.deps.contains id := ⟨_, rfl⟩
        rw [← hs] at hC hws
        have HCC := Lib.hid hC
        have HWS := Lib.hid hws
        have hrowA := HROW.out.below hbA
        have hbelA := HB.out.trans (hbA.mono HB.out.size)
        have hown := hrowA.own
        have hszw := hbelA.size
        simp only [World.size_alloc] at hszw
        have HROWA := Lib.hid hrowA
        have HBA := Lib.hid hbelA
        clear hv hc1 hc2 hv2 htk hws hbA hC hs hrowA hbelA hwsn
        cases s with
        | false =>
          go_wp2_with fail
          refine HCC.out.mono ?_
          rintro e w1 ⟨rfl, rfl⟩
          go_wp2
          go_roundw
          case rel => exact ⟨i + 1, by go_num, by omega, by rw [HWS.out]; simpa using HROWA.out, HBA.out⟩
          case measure => simp [intOf]; omega
        | true =>
          go_wp2_with fail
          refine HCC.out.mono ?_
          rintro e w1 ⟨rfl, rfl⟩
          go_wp2_with (at_builtin; refine wpList_append_own _ rfl _ _ 27 rfl w.heap.size 26 i0 (.int .u64 0) 1 8 Tryz.underlying27 hi0 hz0 hz1 hz2 rfl (by decide) _ _ _ rfl (hown.alloc _) ⟨wr.heap.size + 1, 0, none⟩ 1 1 [.int .u64 v.id] rfl rfl (by have h := cell_one_new (wr.alloc (.cells #[.int .u64 v.id, .slice v.da v.deps.length v.dc] 72)) (.int .u64 v.id) 26; simp only [World.size_alloc] at h; exact h) (by simp [Value.oneCell']) (by unfold maxLen; omega) (by omega) (by simp; omega) ?_)
          intro v' w6 hown' hgrow _
          have hbl : Below (wr.alloc (.cells #[.int .u64 v.id, .slice v.da v.deps.length v.dc] 72)).heap.size (wr.alloc (.cells #[.int .u64 v.id, .slice v.da v.deps.length v.dc] 72)) ((wr.alloc (.cells #[.int .u64 v.id, .slice v.da v.deps.length v.dc] 72)).alloc (.cells #[.int .u64 v.id] 26)) := (Below.refl _ _).alloc (Nat.le_refl _) _
          have hr6 := RowU.snoc hown'
          have hb6 : Below w.heap.size w w6 := (HROWA.out.below hbl).grown (HBA.out.trans (hbl.mono HBA.out.size)) (by simp; omega) hgrow
          have HR6 := Lib.hid hr6
          have HB6 := Lib.hid hb6
          clear hown' hgrow hbl hr6 hb6 hown
          go_wp2
          go_roundw
          case rel => exact ⟨i + 1, by go_num, by omega, by rw [HWS.out]; exact HR6.out, HB6.out⟩
          case measure => simp [intOf]; omega
      · obtain rfl : i = l.length := by omega
        have hd : decide ((l.length : Int) < (l.length : Int)) = false := by simp
        rw [List.take_length] at HROW ⊢
        have hwl := waiters_len l id
        obtain ⟨us, hus⟩ : ∃ us, us = waiters l id := ⟨_, rfl⟩
        rw [← hus] at HROW HOK hwl ⊢
        have hso := sort_own HROW.out.own (by omega)
        have HSO := Lib.hid hso
        clear hus hso
        go_wp2_with fail
        refine HSO.out.mono ?_
        rintro e w2 ⟨rfl, hrow2, hg2⟩
        have hsl := sorted_len us
        have hr2 : RowU w.heap.size (.slice oa (sorted us).length oc) (sorted us) w2 := ⟨by rw [hsl]; exact hrow2⟩
        have hcm := compactU_any hr2 (by omega)
        rw [hsl] at hcm
        have HCM := Lib.hid hcm
        have HB2 := Lib.hid (HROW.out.grown HB.out HB.out.size hg2)
        have HR2 := Lib.hid hr2
        clear hrow2 hg2 hcm hr2
        go_wp2_with fail
        refine HCM.out.mono ?_
        rintro e w3 ⟨rfl, hrow3, hg3⟩
        have HR3 := Lib.hid hrow3
        have HB3 := Lib.hid (HB2.out.grown hg3 HB2.out.size fun k e => by
          have h := HR2.out.lt k
          rw [hsl] at h
          exact (h e).1)
        clear hrow3 hg3
        go_wp2
        go_ret
        exact ⟨_, rfl, by rw [HOK.out]; exact HR3.out, HB3.out⟩
  · have hg64 : decide ((64 : Int) < (l.length : Int)) = true := by simp; omega
    have HNO := Lib.hid (show useOf (rowOf l) id = [] by unfold useOf; rw [rowOf_len, if_neg h64])
    clear hN hdl
    go_enter Tryz.func29, Tryz.ntmps29
    go_wp2
    go_ret
    exact ⟨_, rfl, by rw [HNO.out]; exact RowU.nil _ _, Below.refl _ _⟩

end Go.Proofs.YtpbnjibomdilhaaGreatDoor.Gph

namespace Go.Proofs.YtpbnjibomdilhaaGreatDoor.Job
open Go.RowKit Go.Maps

theorem Ok.deps {L : List J} {last : Int} {n : Nat} (h : Ok L last n) {m : Nat} (hm : 8 ≤ m) : ∀ j ∈ L, j.deps.length ≤ m := fun j hj => Nat.le_trans (h.may j hj).deps hm
theorem jfree {W : World} {B : Nat} {j : J} (h : W.heap[B]? = some (jobj j)) (i : Nat) : W.frozen? ⟨B, i, none⟩ = false := by simp [World.frozen?, h, jobj]

theorem JF.block_lt {w : World} {j : J} (h : JF w j) (hne : j.deps ≠ []) {x : Addr} (hx : j.da = some x) : x.block < w.heap.size := by
  obtain ⟨g, q, h1, h2⟩ := h.vals
  have e := hx.symm.trans (h1 (by simpa using hne))
  have h3 := (h2 0 (by rw [List.length_map]; exact List.length_pos_iff.2 hne)).1
  have : x = ⟨g, q, none⟩ := Option.some.inj e
  rw [this]
  exact h3
theorem JF.kept2 {w w' : World} {j : J} (h : JF w j) (hs : w.heap.size ≤ w'.heap.size) (hb : j.deps ≠ [] → ∀ x, j.da = some x → x.block < w.heap.size → w'.heap[x.block]? = w.heap[x.block]?) : JF w' j := by
  refine ⟨h.id, h.ver, h.fit, ?_, h.none_, h.cap, h.big⟩
  by_cases hne : j.deps = []
  · rw [hne]; exact Vals.nil _ _
  · exact h.vals.kept hs (hb hne)
/-- what the row is told to be -/
theorem mayWith_any {w : World} {B : Nat} {a : Option Addr} {c : Nat} {l : List Gph.NodeV} {L : List J} {last : Int} {n : Nat} (hr : Gph.RowN B (.slice a l.length c) l w) (hn : ∀ x ∈ l, Gph.NodeF w x) (ho : Ok L last n) {j : J} (hd : j.deps.length ≤ 12) (hof : Gph.rowOf l = withJ L j) :
    Calls Tryz.prog 16 #[.slice a l.length c] w fun e w' => e = .returned (.int .i64 (Gr.mayOf (withJ L j))) ∧ Below w.heap.size w w' := by
  rw [← hof]
  have hwl : (withJ L j).length ≤ 33 := by
    unfold withJ
    rw [List.length_append]
    have h1 := List.length_filter_le (fun x : Int × List Int => !(x.1 == j.id)) (rowJ L)
    have h2 : (rowJ L).length = L.length := by simp [rowJ]
    have := ho.len
    simp at h1 ⊢
    omega
  have hl : l.length ≤ 33 := by
    have := congrArg List.length hof
    unfold Gph.rowOf at this
    rw [List.length_map] at this
    omega
  refine Gph.may_any (hr.read hn).1 (by omega) fun v hv => ?_
  have hm : (v.id, v.deps) ∈ withJ L j := by rw [← hof]; exact List.mem_map.2 ⟨v, hv, rfl⟩
  unfold withJ at hm
  rcases List.mem_append.1 hm with hm | hm
  · obtain ⟨k, hk, e⟩ := rowJ_mem.1 (List.mem_filter.1 hm).1
    have e2 : k.deps = v.deps := congrArg Prod.snd e
    rw [← e2]
    exact ho.deps (by omega) k hk
  · simp at hm
    have e2 : v.deps = j.deps := congrArg Prod.snd hm
    rw [e2]
    omega

def J.num (j : J) (z : Int) : J := { j with id := z }
def J.one (j : J) : J := { j with ver := 1 }
/-- how Add ends -/
def AddPost (w : World) (k b : Nat) (L : List J) (last : Int) (j : J) (e : Ending) (w' : World) : Prop :=
  ∃ L' last', e = .returned (.tuple #[.int .u64 (if addE L (j.num (last + 1)) = 0 then last + 1 else 0), .int .i64 (addE L (j.num (last + 1)))]) ∧ TabAt w' k b L' last' ∧
    ((addE L (j.num (last + 1)) ≠ 0 ∧ L' = L ∧ last' = last) ∨ (addE L (j.num (last + 1)) = 0 ∧ last' = last + 1 ∧ ∃ da dc, L' = L ++ [(j.num (last + 1)).one.at da dc])) ∧ Eff k b w w'
theorem AddPost.no {w w' : World} {k b : Nat} {L : List J} {last : Int} {j : J} {z : Int} (he : addE L (j.num (last + 1)) = z) (hz : z ≠ 0) (ht : TabAt w' k b L last) (hf : Eff k b w w') : AddPost w k b L last j (.returned (.tuple #[.int .u64 0, .int .i64 z])) w' :=
  ⟨L, last, by rw [he, if_neg hz], ht, .inl ⟨by rw [he]; exact hz, rfl, rfl⟩, hf⟩

set_option maxRecDepth 100000 in
set_option maxHeartbeats 4000000 in
theorem add_any {w : World} {k b : Nat} {L : List J} {last : Int} {n : Nat} (h : TabAt w k b L last) (hk : Kit w) (ho : Ok L last n) (hn : n ≤ 1000) {j : J} (hj : JF w j) (hd : j.deps.length ≤ 12) :
    Calls Tryz.prog 10 #[.pointer (some ⟨k, 0, none⟩), j.val] w (AddPost w k b L last j) := by
  obtain ⟨w0, hw0⟩ : ∃ W, W = w.alloc (.cells j.cs 29) := ⟨_, rfl⟩
  have hb0 : Below w.heap.size w w0 := by rw [hw0]; exact (Below.refl _ _).alloc (Nat.le_refl _) _
  have hj0 : w0.heap[w.heap.size]? = some (jobj j) := by rw [hw0]; exact heap_alloc_new w _
  have h0 := h.below hb0
  have hl0 := ho.last0
  have hl1 : last ≤ 1000 := by have := ho.lastn; omega
  obtain ⟨c0, c1⟩ := h0.cells
  obtain ⟨w1, hw1⟩ : ∃ W, W = w0.setCell ⟨w.heap.size, 0, none⟩ (.int .u64 (last + 1)) := ⟨_, rfl⟩
  have ho1 : ∀ i, i ≠ w.heap.size → w1.heap[i]? = w0.heap[i]? := fun i hi => by rw [hw1]; exact Below.heap_setCell _ _ _ _ hi
  have hs1 : w1.heap.size = w0.heap.size := by rw [hw1]; simp [World.setCell]
  have hb1 : Below w.heap.size w w1 := hb0.trans ⟨by rw [hw1]; rfl, by rw [hw1]; rfl, by rw [hw1]; rfl, by omega, fun i hi => ho1 i (by omega)⟩
  obtain ⟨j1, hj1⟩ : ∃ x, x = j.num (last + 1) := ⟨_, rfl⟩
  have hjj1 : w1.heap[w.heap.size]? = some (jobj j1) := by
    rw [hw1, hj1]
    simp [World.setCell, Array.getElem?_modify, hj0, jobj, J.cells, jcells, J.num]
  have h1 := h.below hb1
  have hjf1 : JF w1 j1 := by rw [hj1]; exact ⟨show U64 (last + 1) from ⟨by omega, by omega⟩, hj.ver, hj.fit, hj.vals.below hb1, hj.none_, hj.cap, hj.big⟩
  obtain ⟨⟨d0, d1, d2, d3, d4, d5⟩, d6, d7, d8, d9, d10, d11⟩ := jobj_cells (show (w0.setCell ⟨w.heap.size, 0, none⟩ (.int .u64 (last + 1))).heap[w.heap.size]? = some (jobj j1) by rw [← hw1]; exact hjj1)
  have hf0 := jfree hj0 0
  have hc00 := (jobj_cells hj0).1.1
  have HNONE := Lib.hid (isNone_no h0)
  have HLK := Lib.hid h.ltk
  have HLB := Lib.hid h.ltb
  have HJF0 := Lib.hid hj
  have HL0 := Lib.hid hl0
  have HL1 := Lib.hid hl1
  have HREF := Lib.hid (refuses_any h1 (hk.next hb1) j1)
  have HW0 := Lib.hid hw0
  have HW1 := Lib.hid hw1
  have HB1 := Lib.hid hb1
  have HJ1 := Lib.hid hjj1
  have HT1 := Lib.hid h1
  have HJF1 := Lib.hid hjf1
  have HOK := Lib.hid ho
  have HEA := Lib.hid h.each
  have HD := Lib.hid (show j1.deps.length ≤ 12 by rw [hj1]; exact hd)
  have HJ := Lib.hid hj1
  clear h hk ho hj hd hw0 hb0 hj0 h0 hw1 ho1 hs1 hb1 hjj1 h1 hjf1 hj1
  unfold J.val J.cells jcells at HREF ⊢
  go_enter Tryz.func10, Tryz.ntmps10
  go_wp2_with fail
  rw [← HW0.out]
  refine HNONE.out.mono ?_
  rintro e w9 ⟨rfl, rfl⟩
  go_wp2_with fail
  rw [← HW1.out]
  refine HREF.out.mono ?_
  rintro e w2 ⟨rfl, hb2⟩
  clear d0 d1 d2 d3 d4 d5 d6 d7 d8 d9 d10 d11 hf0 hc00 c0 c1
  have HB2 := Lib.hid (HB1.out.trans (hb2.mono HB1.out.size))
  have HT2 := Lib.hid (HT1.out.below hb2)
  by_cases hr : refJ L j1 = 0
  · rw [hr]
    have HE0 := Lib.hid (show addE L j1 = if 32 ≤ L.length then 6 else Gr.mayOf (withJ L j1) by unfold addE; rw [if_neg (by simp [hr])])
    have hj2 := (hb2.block _ (lt_of_block HJ1.out)).trans HJ1.out
    obtain ⟨⟨d0, d1, d2, d3, d4, d5⟩, d6, d7, d8, d9, d10, d11⟩ := jobj_cells hj2
    have HFULL := Lib.hid (isFull_any HT2.out)
    have HJ2 := Lib.hid hj2
    have HJF2 := Lib.hid (HJF1.out.below hb2)
    clear hb2 hj2 hr HREF
    go_wp2_with fail
    refine HFULL.out.mono ?_
    rintro e w3 ⟨rfl, rfl⟩
    clear HFULL
    by_cases hfull : 32 ≤ L.length
    · have hdd : decide (32 ≤ L.length) = true := decide_eq_true hfull
      rw [hdd]
      have HE1 := Lib.hid (show addE L (j.num (last + 1)) = 6 by rw [← HJ.out, HE0.out, if_pos hfull])
      clear hfull hdd
      go_wp2
      go_ret2
      exact AddPost.no HE1.out (by decide) HT2.out (Eff.of_below HB2.out)
    · have hdd : decide (32 ≤ L.length) = false := decide_eq_false hfull
      rw [hdd]
      have hid0 : (j1.id == 0) = false := by rw [HJ.out]; show (last + 1 == 0) = false; simp; omega
      have HE1 := Lib.hid (show addE L j1 = Gr.mayOf (withJ L j1) by rw [HE0.out, if_neg hfull])
      have HWI := Lib.hid (rowWith_any HT2.out (HOK.out.deps (by omega)) (by have := HOK.out.len; omega) HJF2.out)
      clear hfull hdd
      unfold J.val J.cells jcells at HWI
      go_wp2_with fail
      refine HWI.out.mono ?_
      rintro e w4 ⟨v, l, rfl, hrow, hof, hnf, hb4⟩
      obtain ⟨va, vc, rfl, -⟩ := ownRow_shape hrow.own
      have HMAY := Lib.hid (mayWith_any hrow hnf HOK.out HD.out hof)
      have HB4 := Lib.hid hb4
      clear hrow hof hnf hb4 HWI d0 d1 d2 d3 d4 d5 d6 d7 d8 d9 d10 d11
      go_wp2_with fail
      refine HMAY.out.mono ?_
      rintro e w5 ⟨rfl, hb5⟩
      rw [← HE1.out]
      have HB25 := Lib.hid (HB4.out.trans (hb5.mono HB4.out.size))
      clear hb5 HB4 HMAY
      have hj5 := (HB25.out.block _ (lt_of_block HJ2.out)).trans HJ2.out
      have HT5 := Lib.hid (HT2.out.below HB25.out)
      have HB5 := Lib.hid (HB2.out.trans (HB25.out.mono HB2.out.size))
      by_cases hz : addE L j1 = 0
      · rw [hz]
        obtain ⟨w6, hw6⟩ : ∃ W, W = w5.setCell ⟨w.heap.size, 10, none⟩ (.int .u64 1) := ⟨_, rfl⟩
        have ho6 : ∀ i, i ≠ w.heap.size → w6.heap[i]? = w5.heap[i]? := fun i hi => by rw [hw6]; exact Below.heap_setCell _ _ _ _ hi
        have hs6 : w6.heap.size = w5.heap.size := by rw [hw6]; simp [World.setCell]
        have hb6 : Below w.heap.size w w6 := HB5.out.trans ⟨by rw [hw6]; rfl, by rw [hw6]; rfl, by rw [hw6]; rfl, by omega, fun i hi => ho6 i (by omega)⟩
        obtain ⟨j2, hj2⟩ : ∃ x, x = j1.one := ⟨_, rfl⟩
        have hjj6 : w6.heap[w.heap.size]? = some (jobj j2) := by
          rw [hw6, hj2]
          simp [World.setCell, Array.getElem?_modify, hj5, jobj, J.cells, jcells, J.one]
        have hjf6 : JF w6 j2 := by
          rw [hj2, HJ.out]
          exact ⟨show U64 (last + 1) from ⟨by have := HL0.out; omega, by have := HL1.out; omega⟩, show U64 1 from ⟨by decide, by decide⟩, HJF0.out.fit, HJF0.out.vals.below hb6, HJF0.out.none_, HJF0.out.cap, HJF0.out.big⟩
        have ht6 : TabAt w6 k b L last := by
          have h56 : ∀ i, i ≠ w.heap.size → w6.heap[i]? = w5.heap[i]? := ho6
          obtain ⟨D, m1, m2⟩ := HT5.out.map
          have hlk := HLK.out
          have hlb := HLB.out
          exact ⟨(h56 k (by omega)).trans HT5.out.blk, ⟨D, ownsMap_same m1 (h56 b (by omega)), m2⟩, HT5.out.rise, fun m hm => (HT5.out.each m hm).kept2 (by omega) fun hne x hx hl => h56 _ (Nat.ne_of_lt ((HEA.out m hm).block_lt hne hx)), HT5.out.apart, HT5.out.ne, HT5.out.last⟩
        have hid2 : j2.id = last + 1 := by rw [hj2, HJ.out]; rfl
        have hd2 : j2.deps.length ≤ 12 := by rw [hj2]; exact HD.out
        have hall : ∀ m ∈ L, m.id < j2.id := fun m hm => by have := (HOK.out.ids m hm).2; omega
        have hPUT := put_any ht6 hjf6 (by omega) (.inr hall) (by have := HOK.out.len; omega)
        obtain ⟨⟨d0, d1, d2, d3, d4, d5⟩, d6, d7, d8, d9, d10, d11⟩ := jobj_cells (show (w5.setCell ⟨w.heap.size, 10, none⟩ (.int .u64 1)).heap[w.heap.size]? = some (jobj j2) by rw [← hw6]; exact hjj6)
        have hf10 := jfree hj5 10
        have hc10 := (jobj_cells hj5).2.2.2.2.2.1
        have HPUT := Lib.hid hPUT
        have HW6 := Lib.hid hw6
        have HJ6 := Lib.hid hjj6
        have HB6 := Lib.hid hb6
        have HID2 := Lib.hid hid2
        have HALL := Lib.hid hall
        have HZ := Lib.hid (show addE L (j.num (last + 1)) = 0 by rw [← HJ.out]; exact hz)
        have HJ2' := Lib.hid hj2
        clear hw6 ho6 hs6 hb6 hj2 hjj6 hjf6 ht6 hid2 hd2 hall hPUT hj5 hz
        unfold J.val J.cells jcells at HPUT
        go_wp2_with fail
        rw [← HW6.out]
        refine HPUT.out.mono ?_
        rintro e w7 ⟨rfl, ⟨da, dc, ht7⟩, hf7⟩
        clear d0 d1 d2 d3 d4 d5 d6 d7 d8 d9 d10 d11 hf10 hc10 HPUT
        have hlk := HLK.out
        have hlb := HLB.out
        have hj7 : w7.heap[w.heap.size]? = some (jobj j2) := (hf7.block _ (lt_of_block HJ6.out) (by omega) (by omega)).trans HJ6.out
        have e0 := (jobj_cells hj7).1.1
        have e1 := ht7.cells.2
        have hfk : w7.frozen? ⟨k, 1, none⟩ = false := by simp [World.frozen?, ht7.blk]
        have hid3 : j2.id = last + 1 := HID2.out
        rw [hid3] at e0
        have ht8 := ht7.setLast (z := last + 1) ⟨by have := HL0.out; omega, by have := HL1.out; omega⟩
        have hj8 : (w7.setCell ⟨k, 1, none⟩ (.int .u64 (last + 1))).heap[w.heap.size]? = some (jobj j2) := (Below.heap_setCell w7 ⟨k, 1, none⟩ (.int .u64 (last + 1)) w.heap.size (show w.heap.size ≠ k by omega)).trans hj7
        have e8 := (jobj_cells hj8).1.1
        rw [hid3] at e8
        have HT8 := Lib.hid ht8
        have HF8 := Lib.hid (((Eff.of_below (k := k) (b := b) HB6.out).trans hf7).trans (Eff.of_set w7 1 (.int .u64 (last + 1))))
        clear hlk hlb hj7 hid3 ht8 hj8 ht7 hf7
        go_wp2
        go_ret2
        refine ⟨_, last + 1, by rw [HZ.out, if_pos rfl]; rfl, HT8.out, .inr ⟨HZ.out, rfl, da, dc, ?_⟩, HF8.out⟩
        rw [putJ_new (fun m hm => by have := HALL.out m hm; show m.id ≠ j2.id; omega), HJ2'.out, HJ.out]
      · have HE2 := Lib.hid (show addE L (j.num (last + 1)) = addE L j1 by rw [← HJ.out])
        have HNE := Lib.hid hz
        obtain ⟨z, hzz⟩ : ∃ z, z = addE L j1 := ⟨_, rfl⟩
        rw [← hzz] at HE2 HNE hz ⊢
        have hzb : (z != 0) = true := by simpa using hz
        clear hj5 hz hzz
        go_wp2
        go_ret2
        exact AddPost.no HE2.out HNE.out HT5.out (Eff.of_below HB5.out)
  · have hz : addE L j1 = refJ L j1 := by unfold addE; rw [if_pos hr]
    rw [← hz] at hr ⊢
    have HE1 := Lib.hid (show addE L (j.num (last + 1)) = addE L j1 by rw [← HJ.out])
    have HNE := Lib.hid hr
    obtain ⟨z, hzz⟩ : ∃ z, z = addE L j1 := ⟨_, rfl⟩
    rw [← hzz] at HE1 HNE hr ⊢
    have hzb : (z != 0) = true := by simpa using hr
    clear hb2 hr hz hzz HREF
    go_wp2
    go_ret2
    exact AddPost.no HE1.out HNE.out HT2.out (Eff.of_below HB2.out)
end Go.Proofs.YtpbnjibomdilhaaGreatDoor.Job
