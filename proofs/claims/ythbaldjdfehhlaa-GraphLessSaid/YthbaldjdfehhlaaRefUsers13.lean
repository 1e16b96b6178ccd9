/- The reference's Users, by its contract. -/
import Derived.Test.YthbaldjdfehhlaaRefOrder13
namespace Go.Proofs.Ythbaldjdfehhlaa
open Go.RowKit Gr Go.Sort

def useOf (L : Row) (id : Int) : List Int := if L.length ≤ 64 then usersOf L id else []
theorem useOf_fit {l : List NodeV} (h : ∀ v ∈ l, U64 v.id) (id : Int) : ∀ x ∈ useOf (rowOf l) id, U64 x := fun x hx => by
  unfold useOf at hx
  split at hx
  · obtain ⟨v, hv, rfl, _⟩ := edge_iff.1 (((users_is _ id).mem x).1 hx)
    exact h v hv
  · cases hx
/-- users that have been told: the least ones -/
structure Told (L : Row) (id : Int) (out : List Int) : Prop where
  rise : out.Pairwise (· < ·)
  use : ∀ x ∈ out, Gr.Edge L x id
  rest : ∀ u, Gr.Edge L u id → u ∉ out → ∀ x ∈ out, x < u
theorem Told.start (L : Row) (id : Int) : Told L id [] := ⟨List.Pairwise.nil, (fun x hx => by cases hx), fun u _ _ x hx => by cases hx⟩
theorem Told.nodup {L : Row} {id : Int} {out : List Int} (h : Told L id out) : out.Nodup := h.rise.imp fun hab e => by omega
theorem Told.len {L : Row} {id : Int} {out : List Int} (h : Told L id out) : out.length ≤ L.length := by
  have := nodup_le (l := ids L) h.nodup fun x hx => (h.use x hx).head
  simpa [ids] using this
theorem Told.next {L : Row} {id : Int} {out : List Int} (h : Told L id out) {x : Int} (hx : Gr.Edge L x id) (hn : x ∉ out) (hle : ∀ u, Gr.Edge L u id → u ∉ out → x ≤ u) : Told L id (out ++ [x]) := by
  refine ⟨List.pairwise_append.2 ⟨h.rise, by simp, fun a ha b hb => ?_⟩, fun y hy => ?_, fun u hu hun y hy => ?_⟩
  · simp at hb
    subst hb
    exact h.rest _ hx hn a ha
  · rcases List.mem_append.1 hy with hy | hy
    · exact h.use y hy
    · simp at hy; subst hy; exact hx
  · have hu1 : u ∉ out := fun h => hun (List.mem_append.2 (.inl h))
    have hu2 : u ≠ x := fun h => hun (List.mem_append.2 (.inr (by simp [h])))
    rcases List.mem_append.1 hy with hy | hy
    · exact h.rest u hu hu1 y hy
    · simp at hy
      subst hy
      have := hle u hu hu1
      omega
theorem Told.all {L : Row} {id : Int} {out : List Int} (h : Told L id out) (hall : ∀ u, Gr.Edge L u id → u ∈ out) : out = usersOf L id :=
  IsUsers.eq ⟨h.rise, fun x => ⟨h.use x, hall x⟩⟩

def wants (id : Int) (out : List Int) (v : NodeV) : Bool := v.deps.contains id && !out.contains v.id
theorem wants_iff {id : Int} {out : List Int} {v : NodeV} : wants id out v = true ↔ id ∈ v.deps ∧ v.id ∉ out := by simp [wants]

set_option maxRecDepth 100000 in
set_option maxHeartbeats 4000000 in
theorem refUsers_any {w : World} {a : Option Addr} {l : List NodeV} {c : Nat} (hN : NodesF w a l) (hl : l.length ≤ 70) (hdl : ∀ v ∈ l, v.deps.length ≤ 12) (id : Int) :
    Calls Try.prog 14 #[.slice a l.length c, .int .u64 id] w fun e w' => ∃ v, e = .returned v ∧ RowU w.heap.size v (useOf (rowOf l) id) w' ∧ Below w.heap.size w w' := by
  obtain ⟨i0, hi0, hz0, hz1, hz2⟩ := info_parts infoU64
  by_cases h64 : l.length ≤ 64
  · have hg64 : decide ((64 : Int) < (l.length : Int)) = false := by simp; omega
    have HOK := Lib.hid (show useOf (rowOf l) id = usersOf (rowOf l) id by unfold useOf; rw [rowOf_len, if_pos h64])
    obtain ⟨⟨b0, q, ha, hc⟩, heach⟩ := hN
    have HA := Lib.hid ha
    have HC := Lib.hid hc
    have HE := Lib.hid heach
    have HD := Lib.hid hdl
    clear ha hc heach hdl
    go_enter Try.func14, Try.ntmps14
    go_wp2
    go_loopg [5] (l.length + 1) (fun gh v5 wr => ∃ g : List Int, gh + g.length = l.length + 1 ∧ RowU w.heap.size v5 g wr ∧ Below w.heap.size w wr ∧ Told (rowOf l) id g)
    case atStart => exact ⟨[], by simp, RowU.nil _ _, Below.refl _ _, Told.start _ _⟩
    case round =>
      obtain ⟨g, hgl, hrow, hbel, htold⟩ := hrel
      obtain ⟨oa, oc, rfl⟩ := hrow.shape
      have HROW := Lib.hid hrow
      have HB := Lib.hid hbel
      have HT := Lib.hid htold
      have HGL := Lib.hid hgl
      have hgle := htold.len
      rw [rowOf_len] at hgle
      have hgfit : ∀ x ∈ g, U64 x := fun x hx => by
        obtain ⟨v, hv, rfl, _⟩ := edge_iff.1 (htold.use x hx)
        exact (HE.out v hv).id
      have HGF := Lib.hid hgfit
      clear hrow hbel htold hgfit hgl
      go_wp2
      go_loopw [6, 7] (fun v6 v7 wr => ∃ (i : Nat) (b : Int), v7 = .int .i64 (i : Int) ∧ v6 = .int .i64 b ∧ i ≤ l.length ∧ Best l (wants id g) i b ∧ RowU w.heap.size (.slice oa g.length oc) g wr ∧ Below w.heap.size w wr) (fun _ v7 _ => l.length - (intOf v7).toNat)
      case atStart => exact ⟨0, -1, rfl, rfl, Nat.zero_le _, Best.start _ _, HROW.out, HB.out⟩
      case round =>
        clear HROW HB
        obtain ⟨i, b, rfl, rfl, hi, hbest, hrow, hbel⟩ := hrel
        have HROW := Lib.hid hrow
        have HB := Lib.hid hbel
        have HBEST := Lib.hid hbest
        have hbl := hbest.lt
        clear hrow hbel hbest
        by_cases hlt : i < l.length
        · obtain ⟨hg, hc1, hc2⟩ := HC.out i hlt
          have ea := HA.out (by intro e; subst e; simp at hlt)
          cases ea
          have hd1 := (HB.out.cell (p := ⟨b0, q + i * 2, none⟩) hg).trans hc1
          have hd2 := (HB.out.cell (p := ⟨b0, q + i * 2 + 1, none⟩) hg).trans hc2
          have hd : decide ((i : Int) < (l.length : Int)) = true := by simp; omega
          have hv2 := HE.out l[i] (List.getElem_mem hlt)
          have hvd := HD.out l[i] (List.getElem_mem hlt)
          obtain ⟨v, hv⟩ : ∃ v, l[i] = v := ⟨_, rfl⟩
          rw [hv] at hd1 hd2 hv2 hvd
          have HV := Lib.hid hv
          have h1 : ∀ n, Calls Try.prog 18 #[.slice v.da v.deps.length v.dc, .int .u64 id] (wr.drewN n) fun e w' => e = .returned (.bool (v.deps.contains id)) ∧ w' = wr.drewN n := fun n =>
            refHas_any ((hv2.deps.below HB.out).below (bel_drewN (Below.refl _ _) n)) (by omega) id
          have h2 : ∀ n, Calls Try.prog 18 #[.slice oa g.length oc, .int .u64 v.id] (wr.drewN n) fun e w' => e = .returned (.bool (g.contains v.id)) ∧ w' = wr.drewN n := fun n =>
            refHas_any ((HROW.out.read HGF.out).1.below (bel_drewN (Below.refl _ _) n)) (by omega) v.id
          have hw : wants id g v = (v.deps.contains id && !g.contains v.id) := rfl
          obtain ⟨s1, hs1⟩ : ∃ s, s = v.deps.contains id := ⟨_, rfl⟩
          obtain ⟨s2, hs2⟩ : ∃ s, s = g.contains v.id := ⟨_, rfl⟩
          rw [← hs1, ← hs2] at hw
          rw [← hs1] at h1
          rw [← hs2] at h2
          have H1 := Lib.hid h1
          have H2 := Lib.hid h2
          have HW := Lib.hid hw
          clear hv hv2 hc1 hc2 h1 h2 hw hs1 hs2
          cases s1 with
          | false =>
            go_wp2_with fail
            go_quiet (first | (go_at_call_of 18 v.dc; exact Calls.quiet_of_same (H1.out _)) | (go_at_call_of 18 oc; exact Calls.quiet_of_same (H2.out _)))
            go_wp2
            go_roundw
            case rel => exact ⟨i + 1, b, by go_num, rfl, by omega, HBEST.out.skip hlt (by rw [HV.out]; exact HW.out), HROW.out.below (bel_drewN (Below.refl _ _) _), bel_drewN HB.out _⟩
            case measure => simp [intOf]; omega
          | true =>
            cases s2 with
            | true =>
              go_wp2_with fail
              go_quiet (first | (go_at_call_of 18 v.dc; exact Calls.quiet_of_same (H1.out _)) | (go_at_call_of 18 oc; exact Calls.quiet_of_same (H2.out _)))
              go_wp2
              go_roundw
              case rel => exact ⟨i + 1, b, by go_num, rfl, by omega, HBEST.out.skip hlt (by rw [HV.out]; exact HW.out), HROW.out.below (bel_drewN (Below.refl _ _) _), bel_drewN HB.out _⟩
              case measure => simp [intOf]; omega
            | false =>
              by_cases hbn : b < 0
              · obtain rfl : b = -1 := by omega
                go_wp2_with fail
                go_quiet (first | (go_at_call_of 18 v.dc; exact Calls.quiet_of_same (H1.out _)) | (go_at_call_of 18 oc; exact Calls.quiet_of_same (H2.out _)))
                go_wp2
                go_roundw
                case rel => exact ⟨i + 1, (i : Int), by go_num, rfl, by omega, HBEST.out.first hlt (by rw [HV.out]; exact HW.out), HROW.out.below (bel_drewN (Below.refl _ _) _), bel_drewN HB.out _⟩
                case measure => simp [intOf]; omega
              · obtain ⟨m, rfl⟩ : ∃ m : Nat, b = (m : Int) := ⟨b.toNat, by omega⟩
                have hm : m < l.length := by omega
                obtain ⟨hgm, hm1, hm2⟩ := HC.out m hm
                have hdm := (HB.out.cell (p := ⟨b0, q + m * 2, none⟩) hgm).trans hm1
                obtain ⟨y, hy⟩ : ∃ y, l[m].id = y := ⟨_, rfl⟩
                rw [hy] at hdm
                have HY := Lib.hid hy
                have hbng : decide ((m : Int) < 0) = false := by simp
                have hbng2 : decide ((m : Int) < (l.length : Int)) = true := by simp; omega
                clear hy hm1 hm2 hgm
                by_cases hlx : v.id < y
                · have hlxg : decide (v.id < y) = true := by simp; omega
                  go_wp2_with fail
                  go_quiet (first | (go_at_call_of 18 v.dc; exact Calls.quiet_of_same (H1.out _)) | (go_at_call_of 18 oc; exact Calls.quiet_of_same (H2.out _)))
                  go_wp2
                  go_roundw
                  case rel => exact ⟨i + 1, (i : Int), by go_num, rfl, by omega, HBEST.out.less hm hlt (by rw [HV.out]; exact HW.out) (by rw [HV.out, HY.out]; omega), HROW.out.below (bel_drewN (Below.refl _ _) _), bel_drewN HB.out _⟩
                  case measure => simp [intOf]; omega
                · have hlxg : decide (v.id < y) = false := by simp; omega
                  go_wp2_with fail
                  go_quiet (first | (go_at_call_of 18 v.dc; exact Calls.quiet_of_same (H1.out _)) | (go_at_call_of 18 oc; exact Calls.quiet_of_same (H2.out _)))
                  go_wp2
                  go_roundw
                  case rel => exact ⟨i + 1, (m : Int), by go_num, rfl, by omega, HBEST.out.keep hm hlt (by rw [HV.out, HY.out]; omega), HROW.out.below (bel_drewN (Below.refl _ _) _), bel_drewN HB.out _⟩
                  case measure => simp [intOf]; omega
        · obtain rfl : i = l.length := by omega
          have hd : decide ((l.length : Int) < (l.length : Int)) = false := by simp
          rcases HBEST.out.end_ with ⟨rfl, hnone⟩ | ⟨m, hm, rfl, hrm, hle⟩
          · have hall := HT.out.all fun u hu => by
              obtain ⟨v, hv, rfl, hd⟩ := edge_iff.1 hu
              apply Decidable.byContradiction
              intro hn
              have := hnone v hv
              rw [wants_iff.2 ⟨hd, hn⟩] at this
              cases this
            have HALL := Lib.hid hall
            clear hall hnone
            go_wp2
            go_ret
            exact ⟨_, rfl, by rw [HOK.out, ← HALL.out]; exact HROW.out, HB.out⟩
          · obtain ⟨hwd, hwn⟩ := wants_iff.1 hrm
            have htold2 := HT.out.next (edge_of (List.getElem_mem hm) hwd) hwn (fun u hu hun => by
              obtain ⟨v, hv, rfl, hd⟩ := edge_iff.1 hu
              exact hle v hv (wants_iff.2 ⟨hd, hun⟩))
            obtain ⟨hgm, hm1, hm2⟩ := HC.out m hm
            have ea := HA.out (by intro e; subst e; simp at hm)
            cases ea
            have hdm := (HB.out.cell (p := ⟨b0, q + m * 2, none⟩) hgm).trans hm1
            obtain ⟨y, hy⟩ : ∃ y, l[m].id = y := ⟨_, rfl⟩
            rw [hy] at hdm htold2
            have HT2 := Lib.hid htold2
            have hbng : decide ((m : Int) < 0) = false := by simp
            have hbng2 : decide ((m : Int) < (l.length : Int)) = true := by simp; omega
            have hown := HROW.out.own
            have hszw := HB.out.size
            clear hy hm1 hm2 hgm htold2 hrm hle hwd hwn
            go_wp2_with (at_builtin; refine wpList_append_own _ rfl _ _ 26 rfl w.heap.size 23 i0 (.int .u64 0) 1 8 Try.underlying26 hi0 hz0 hz1 hz2 rfl (by decide) _ _ _ rfl (hown.alloc _) ⟨wr.heap.size, 0, none⟩ 1 1 [.int .u64 y] rfl rfl (cell_one_new _ _ _) (by simp [Value.oneCell']) (by unfold maxLen; omega) (by omega) (by simp; omega) ?_)
            intro v' w6 hown' hgrow _
            have hr6 := RowU.snoc hown'
            have hb6 : Below w.heap.size w w6 := (HROW.out.below ((Below.refl _ _).alloc (Nat.le_refl _) (.cells #[.int .u64 y] 23))).grown (HB.out.alloc HB.out.size _) (by simp; omega) hgrow
            have HR6 := Lib.hid hr6
            have HB6 := Lib.hid hb6
            clear hown' hgrow hr6 hb6 hown
            go_wp2
            go_roundg (l.length + 1 - (g.length + 1))
            case measure => have := HGL.out; omega
            case rel => exact ⟨g ++ [y], by simp; omega, HR6.out, HB6.out, HT2.out⟩
  · have hg64 : decide ((64 : Int) < (l.length : Int)) = true := by simp; omega
    have HNO := Lib.hid (show useOf (rowOf l) id = [] by unfold useOf; rw [rowOf_len, if_neg h64])
    clear hN
    go_enter Try.func14, Try.ntmps14
    go_wp2
    go_ret
    exact ⟨_, rfl, by rw [HNO.out]; exact RowU.nil _ _, Below.refl _ _⟩

end Go.Proofs.Ythbaldjdfehhlaa
