/- The reference's Reach, by its contract. -/
import Derived.Test.YthbaldjdfehhlaaRefA13
import Derived.Test.YthbaldjdfehhlaaRowU13
import Derived.BigRegion
namespace Go.Proofs.Ythbaldjdfehhlaa
open Go.RowKit Gr Go.Sort

/-- two rows of a call's own: those seen, and more, in blocks from H on -/
structure RS (w : World) (H : Nat) (sv : Value) (seen : List Int) (mv : Value) (more : List Int) (W : World) : Prop where
  bel : Below w.heap.size w W
  hs : H ≤ W.heap.size
  hw : w.heap.size ≤ H
  seen : RowU w.heap.size sv seen W
  sb : ∀ k, sv.ownBlock = some k → k < H
  more : RowU H mv more W
section
variable {w W W' : World} {H : Nat} {sv mv mv' : Value} {seen more more' : List Int}
theorem RS.below (t : RS w H sv seen mv more W) (hb : Below W.heap.size W W') : RS w H sv seen mv more W' :=
  ⟨t.bel.trans (hb.mono t.bel.size), Nat.le_trans t.hs hb.size, t.hw, t.seen.below hb, t.sb, t.more.below hb⟩
theorem RS.grown (t : RS w H sv seen mv more W) (hg : W.grownBy W' mv.ownBlock) (h : RowU H mv' more' W') : RS w H sv seen mv' more' W' := by
  have hb : Below H W W' := (Below.refl _ _).grown hg t.hs fun k e => (t.more.lt k e).1
  exact ⟨t.bel.trans (hb.mono t.hw), Nat.le_trans t.hs hb.size, t.hw, t.seen.keep hb t.sb, t.sb, h⟩
theorem RS.start (hb : Below w.heap.size w W) (h : RowU w.heap.size sv seen W) : RS w W.heap.size sv seen (.slice none 0 0) [] W :=
  ⟨hb, Nat.le_refl _, hb.size, h, fun k e => (h.lt k e).2, RowU.nil _ _⟩
end

def allDeps (l : List NodeV) : List Int := (l.map (·.deps)).flatten
theorem allDeps_len {l : List NodeV} (hd : ∀ v ∈ l, v.deps.length ≤ 12) : (allDeps l).length ≤ 12 * l.length := by
  unfold allDeps
  induction l with
  | nil => simp
  | cons v l ih =>
    have h1 := hd v (by simp)
    have h2 := ih fun u hu => hd u (by simp [hu])
    simp only [List.map_cons, List.flatten_cons, List.length_append, List.length_cons]
    omega
theorem mem_allDeps {l : List NodeV} {v : NodeV} {d : Int} (hv : v ∈ l) (hd : d ∈ v.deps) : d ∈ allDeps l := List.mem_flatten.2 ⟨v.deps, List.mem_map_of_mem hv, hd⟩
theorem edge_of {l : List NodeV} {v : NodeV} {d : Int} (hv : v ∈ l) (hd : d ∈ v.deps) : Gr.Edge (rowOf l) v.id d := ⟨v.node, List.mem_map_of_mem hv, rfl, hd⟩
theorem edge_iff {l : List NodeV} {x d : Int} : Gr.Edge (rowOf l) x d ↔ ∃ v ∈ l, v.id = x ∧ d ∈ v.deps := by
  constructor
  · rintro ⟨n, hn, e1, e2⟩
    obtain ⟨v, hv, rfl⟩ := List.mem_map.1 hn
    exact ⟨v, hv, e1, e2⟩
  · rintro ⟨v, hv, rfl, hd⟩
    exact edge_of hv hd

/-- those seen so far -/
structure Seen (l : List NodeV) (f : Int) (seen : List Int) : Prop where
  me : f ∈ seen
  nodup : seen.Nodup
  fit : ∀ x ∈ seen, U64 x
  way : ∀ x ∈ seen, x = f ∨ Path (rowOf l) f x
  dep : ∀ x ∈ seen, x = f ∨ x ∈ allDeps l
/-- more, behind k Deps of the i-th node -/
structure More (l : List NodeV) (f t : Int) (seen : List Int) (i k : Nat) (more : List Int) : Prop where
  nodup : more.Nodup
  fit : ∀ x ∈ more, U64 x
  new : ∀ x ∈ more, x ∉ seen
  way : ∀ x ∈ more, Path (rowOf l) f x
  dep : ∀ x ∈ more, x ∈ allDeps l
  done : ∀ j (h : j < l.length), j < i → l[j].id ∈ seen → ∀ d ∈ l[j].deps, d ≠ t ∧ (d ∈ seen ∨ d ∈ more)
  part : ∀ (h : i < l.length), ∀ d ∈ l[i].deps.take k, d ≠ t ∧ (d ∈ seen ∨ d ∈ more)
section
variable {l : List NodeV} {f t : Int} {seen more : List Int} {i k : Nat}
theorem Seen.len (h : Seen l f seen) (hd : ∀ v ∈ l, v.deps.length ≤ 12) : seen.length ≤ 1 + 12 * l.length := by
  have := nodup_le (l := f :: allDeps l) h.nodup fun x hx => by
    rcases h.dep x hx with rfl | h
    · simp
    · simp [h]
  have := allDeps_len hd
  simp only [List.length_cons] at *
  omega
theorem More.len (h : More l f t seen i k more) (hd : ∀ v ∈ l, v.deps.length ≤ 12) : more.length ≤ 12 * l.length := by
  have := nodup_le (l := allDeps l) h.nodup h.dep
  have := allDeps_len hd
  omega
theorem Seen.start (h : U64 f) : Seen l f [f] := ⟨by simp, by simp, (fun x hx => by simp at hx; exact hx ▸ h), (fun x hx => by simp at hx; exact .inl hx), fun x hx => by simp at hx; exact .inl hx⟩
theorem More.start : More l f t seen 0 0 [] :=
  ⟨List.nodup_nil, (fun x hx => by cases hx), (fun x hx => by cases hx), (fun x hx => by cases hx), (fun x hx => by cases hx), fun j _ hj => absurd hj (by omega), fun _ d hd => by simp at hd⟩
/-- the next node -/
theorem More.next (h : More l f t seen i k more) (hi : i < l.length) (hk : l[i].id ∈ seen → k = l[i].deps.length) : More l f t seen (i + 1) 0 more :=
  ⟨h.nodup, h.fit, h.new, h.way, h.dep, fun j hj hji hjs => by
    rcases Nat.lt_or_ge j i with h1 | h1
    · exact h.done j hj h1 hjs
    · obtain rfl : j = i := by omega
      intro d hd
      refine h.part hj d ?_
      rw [hk hjs, List.take_length]
      exact hd, fun _ d hd => by simp at hd⟩
/-- the next Dep, which is in already -/
theorem More.old (h : More l f t seen i k more) (hi : i < l.length) (hk : k < l[i].deps.length) (hne : l[i].deps[k] ≠ t) (hin : l[i].deps[k] ∈ seen ∨ l[i].deps[k] ∈ more) : More l f t seen i (k + 1) more :=
  ⟨h.nodup, h.fit, h.new, h.way, h.dep, h.done, fun _ d hd => by
    rw [List.take_succ_eq_append_getElem hk] at hd
    rcases List.mem_append.1 hd with hd | hd
    · exact h.part hi d hd
    · simp at hd
      subst hd
      exact ⟨hne, hin⟩⟩
/-- .. which is new -/
theorem More.add (h : More l f t seen i k more) (hS : Seen l f seen) (hi : i < l.length) (hk : k < l[i].deps.length) (hne : l[i].deps[k] ≠ t) (hs : l[i].id ∈ seen) (h1 : l[i].deps[k] ∉ seen) (h2 : l[i].deps[k] ∉ more) (hu : U64 l[i].deps[k]) :
    More l f t seen i (k + 1) (more ++ [l[i].deps[k]]) := by
  have he := edge_of (List.getElem_mem hi) (List.getElem_mem hk)
  have hp : Path (rowOf l) f l[i].deps[k] := by
    rcases hS.way _ hs with e | p
    · rw [← e]; exact .one he
    · exact p.snoc he
  have hm : ∀ {P : Int → Prop}, (∀ x ∈ more, P x) → P l[i].deps[k] → ∀ x ∈ more ++ [l[i].deps[k]], P x := fun h3 h4 x hx => by
    rcases List.mem_append.1 hx with hx | hx
    · exact h3 x hx
    · simp at hx; subst hx; exact h4
  refine ⟨List.nodup_append.2 ⟨h.nodup, by simp, fun a ha b hb => by simp at hb; subst hb; exact fun e => h2 (e ▸ ha)⟩, hm h.fit hu, hm h.new h1, hm h.way hp, hm h.dep (mem_allDeps (List.getElem_mem hi) (List.getElem_mem hk)), fun j hj hji hjs d hd => ?_, fun _ d hd => ?_⟩
  · obtain ⟨a, b⟩ := h.done j hj hji hjs d hd
    exact ⟨a, b.imp id fun b => List.mem_append.2 (.inl b)⟩
  · rw [List.take_succ_eq_append_getElem hk] at hd
    rcases List.mem_append.1 hd with hd | hd
    · obtain ⟨a, b⟩ := h.part hi d hd
      exact ⟨a, b.imp id fun b => List.mem_append.2 (.inl b)⟩
    · simp at hd
      subst hd
      exact ⟨hne, .inr (by simp)⟩
/-- who is found is reached -/
theorem Seen.found (h : Seen l f seen) (hi : i < l.length) (hk : k < l[i].deps.length) (hs : l[i].id ∈ seen) (he : l[i].deps[k] = t) : Path (rowOf l) f t := by
  have e := edge_of (List.getElem_mem hi) (List.getElem_mem hk)
  rw [he] at e
  rcases h.way _ hs with h1 | p
  · rw [← h1]; exact .one e
  · exact p.snoc e
/-- nothing more: who has not been found is not reached -/
theorem Seen.none (h : Seen l f seen) (hm : More l f t seen l.length 0 []) : ¬ Path (rowOf l) f t := fun p => by
  have key : ∀ x, x ∈ seen → ∀ d, Gr.Edge (rowOf l) x d → d ∈ seen ∧ d ≠ t := fun x hx d he => by
    obtain ⟨v, hv, rfl, hd⟩ := edge_iff.1 he
    obtain ⟨j, hj, rfl⟩ := List.getElem_of_mem hv
    obtain ⟨a, b⟩ := hm.done j hj hj hx d hd
    exact ⟨b.resolve_right (by simp), a⟩
  exact (p.closed (S := fun x => x ∈ seen ∧ x ≠ t) (fun c e => key f h.me c e) (fun c d hc e => key c hc.1 d e)).2 rfl
/-- what is seen in the next round -/
theorem Seen.join (h : Seen l f seen) (hm : More l f t seen i k more) : Seen l f (seen ++ more) := by
  have hap : ∀ {P : Int → Prop}, (∀ x ∈ seen, P x) → (∀ x ∈ more, P x) → ∀ x ∈ seen ++ more, P x := fun h1 h2 x hx => (List.mem_append.1 hx).elim (h1 x) (h2 x)
  exact ⟨List.mem_append.2 (.inl h.me), List.nodup_append.2 ⟨h.nodup, hm.nodup, fun a ha b hb e => hm.new b hb (e ▸ ha)⟩, hap h.fit hm.fit, hap h.way fun x hx => .inr (hm.way x hx), hap h.dep fun x hx => .inr (hm.dep x hx)⟩
end
def meas (seen : List Int) (fst : Bool) : Nat := 2 * (2000 - seen.length) + fst.toNat

set_option maxRecDepth 100000 in
set_option maxHeartbeats 4000000 in
theorem refReach_any {w : World} {a : Option Addr} {l : List NodeV} {c : Nat} (hN : NodesF w a l) (hl : l.length ≤ 70) (hdl : ∀ v ∈ l, v.deps.length ≤ 12) (f t : Int) (hf : U64 f) :
    Calls Try.prog 16 #[.slice a l.length c, .int .u64 f, .int .u64 t] w fun e w' => ∃ b, e = .returned (.bool b) ∧ (b = true ↔ l.length ≤ 64 ∧ Path (rowOf l) f t) ∧ Below w.heap.size w w' := by
  obtain ⟨i0, hi0, hz0, hz1, hz2⟩ := info_parts infoU64
  by_cases h64 : l.length ≤ 64
  · have hg64 : decide ((64 : Int) < (l.length : Int)) = false := by simp; omega
    obtain ⟨⟨b0, q, ha, hc⟩, heach⟩ := hN
    have HA := Lib.hid ha
    have HC := Lib.hid hc
    have HE := Lib.hid heach
    have HD := Lib.hid hdl
    have hrow := rowU_one w f
    have hb0 : Below w.heap.size w (w.alloc (.cells #[.int .u64 f] 23)) := (Below.refl _ _).alloc (Nat.le_refl _) _
    have HR0 := Lib.hid hrow
    have HB0 := Lib.hid hb0
    have HF := Lib.hid hf
    clear ha hc heach hdl hrow hb0 hf
    go_enter Try.func16, Try.ntmps16
    go_wp2
    go_loopg [7, 8] (meas [f] true) (fun g v7 v8 wr => ∃ (seen : List Int) (fst : Bool), v8 = .bool fst ∧ RowU w.heap.size v7 seen wr ∧ Below w.heap.size w wr ∧ Seen l f seen ∧ g = meas seen fst)
    case atStart => exact ⟨[f], true, rfl, HR0.out, HB0.out, Seen.start HF.out, rfl⟩
    case round =>
      obtain ⟨seen, fst, rfl, hrow, hbel, hsn, hgk⟩ := hrel
      have hlen := hsn.len HD.out
      obtain ⟨sa, sc, rfl⟩ := hrow.shape
      have hrs := RS.start hbel hrow
      obtain ⟨H, hH⟩ : ∃ H, H = wr.heap.size := ⟨_, rfl⟩
      rw [← hH] at hrs
      have HRS := Lib.hid hrs
      have HSN := Lib.hid hsn
      have HG := Lib.hid hgk
      clear hrow hbel hsn hgk hrs hH
      go_wp2
      go_loopw [9, 10] (fun v9 v10 wr => ∃ (i : Nat) (more : List Int), v10 = .int .i64 (i : Int) ∧ i ≤ l.length ∧ RS w H (.slice sa seen.length sc) seen v9 more wr ∧ More l f t seen i 0 more) (fun _ v10 _ => l.length - (intOf v10).toNat)
      case atStart => exact ⟨0, [], rfl, Nat.zero_le _, HRS.out, More.start⟩
      case round =>
        obtain ⟨i, more, rfl, hi, hrs, hm⟩ := hrel
        have hml := hm.len HD.out
        obtain ⟨ma, mc, rfl⟩ := hrs.more.shape
        have HR := Lib.hid hrs
        have HM := Lib.hid hm
        clear HRS hrs hm
        by_cases hlt : i < l.length
        · obtain ⟨hg, hc1, hc2⟩ := HC.out i hlt
          have ea := HA.out (by intro e; subst e; simp at hlt)
          cases ea
          have hd1 := (HR.out.bel.cell (p := ⟨b0, q + i * 2, none⟩) hg).trans hc1
          have hd2 := (HR.out.bel.cell (p := ⟨b0, q + i * 2 + 1, none⟩) hg).trans hc2
          have hv2 := HE.out l[i] (List.getElem_mem hlt)
          obtain ⟨⟨vid, vda, vdc, vdeps⟩, hv⟩ : ∃ v, l[i] = v := ⟨_, rfl⟩
          have hvd := HD.out l[i] (List.getElem_mem hlt)
          rw [hv] at hd1 hd2 hv2 hvd hc1 hc2
          have hHs := refHas_any (c := sc) (HR.out.seen.read HSN.out.fit).1 (by omega) vid
          obtain ⟨s, hs⟩ : ∃ s, s = seen.contains vid := ⟨_, rfl⟩
          rw [← hs] at hHs
          have HH := Lib.hid hHs
          have HS := Lib.hid hs
          have HV := Lib.hid hv
          have HV2 := Lib.hid hv2
          have HC1 := Lib.hid hc1
          have HC2 := Lib.hid hc2
          have hd : decide ((i : Int) < (l.length : Int)) = true := by simp; omega
          clear hHs hs hv hv2 hc1 hc2
          cases s with
          | false =>
            go_wp2_with fail
            refine HH.out.mono ?_
            rintro e w1 ⟨rfl, rfl⟩
            go_wp2
            go_roundw
            case rel => exact ⟨i + 1, more, by go_num, by omega, HR.out, HM.out.next hlt fun h => by
              rw [HV.out] at h
              have := HS.out
              rw [List.contains_iff_mem.2 h] at this
              cases this⟩
            case measure => simp [intOf]; omega
          | true =>
            go_wp2_with fail
            refine HH.out.mono ?_
            rintro e w1 ⟨rfl, rfl⟩
            go_wp2
            clear hd hd1 hd2
            go_loopw [9, 11] (fun v9 v11 wr => ∃ (k : Nat) (more : List Int), v11 = .int .i64 (k : Int) ∧ k ≤ vdeps.length ∧ RS w H (.slice sa seen.length sc) seen v9 more wr ∧ More l f t seen i k more) (fun _ v11 _ => vdeps.length - (intOf v11).toNat)
            case atStart => exact ⟨0, more, rfl, Nat.zero_le _, HR.out, HM.out⟩
            case round =>
              clear HR HM hml
              obtain ⟨k, more, rfl, hk, hrs, hm⟩ := hrel
              have hml := hm.len HD.out
              obtain ⟨ma, mc, rfl⟩ := hrs.more.shape
              have HR := Lib.hid hrs
              have HM := Lib.hid hm
              have hd1 := (hrs.bel.cell (p := ⟨b0, q + i * 2, none⟩) hg).trans HC1.out
              have hd2 := (hrs.bel.cell (p := ⟨b0, q + i * 2 + 1, none⟩) hg).trans HC2.out
              clear hrs hm
              by_cases hkt : k < vdeps.length
              · obtain ⟨⟨dg, dq, hda, hdc⟩, hdf⟩ := HV2.out.deps
                obtain ⟨hdg, hdx⟩ := hdc k hkt
                have ed := hda (by intro e; simp only at e; subst e; simp at hkt)
                simp only at ed
                cases ed
                have hd3 := (HR.out.bel.cell (p := ⟨dg, dq + k, none⟩) hdg).trans hdx
                have hu := hdf vdeps[k] (List.getElem_mem hkt)
                obtain ⟨d, hdd⟩ : ∃ d, vdeps[k] = d := ⟨_, rfl⟩
                simp only [hdd] at hd3 hu hdx
                have HDD := Lib.hid (show ∃ h : k < l[i].deps.length, l[i].deps[k] = d from by
                  refine ⟨by rw [HV.out]; exact hkt, ?_⟩
                  simp only [HV.out]
                  exact hdd)
                have HIN := Lib.hid (show l[i].id ∈ seen from by rw [HV.out]; exact List.contains_iff_mem.1 HS.out.symm)
                have hdk : decide ((k : Int) < (vdeps.length : Int)) = true := by simp; omega
                have hdi : decide ((i : Int) < (l.length : Int)) = true := by simp; omega
                clear hda hdc hdf hdx hdd hdg
                by_cases he : d = t
                · subst he
                  go_wp2
                  go_ret
                  obtain ⟨h1, h2⟩ := HDD.out
                  exact ⟨true, rfl, ⟨fun _ => ⟨h64, HSN.out.found hlt h1 HIN.out h2⟩, fun _ => rfl⟩, HR.out.bel⟩
                · have hHs := refHas_any (c := sc) (HR.out.seen.read HSN.out.fit).1 (by omega) d
                  have hHm := refHas_any (c := mc) (HR.out.more.read HM.out.fit).1 (by omega) d
                  obtain ⟨s1, hs1⟩ : ∃ s, s = seen.contains d := ⟨_, rfl⟩
                  obtain ⟨s2, hs2⟩ : ∃ s, s = more.contains d := ⟨_, rfl⟩
                  rw [← hs1] at hHs
                  rw [← hs2] at hHm
                  have HH1 := Lib.hid hHs
                  have HH2 := Lib.hid hHm
                  have HS1 := Lib.hid hs1
                  have HS2 := Lib.hid hs2
                  clear hHs hHm hs1 hs2
                  cases s1 with
                  | true =>
                    go_wp2_with fail
                    refine HH1.out.mono ?_
                    rintro e w1 ⟨rfl, rfl⟩
                    go_wp2
                    go_roundw
                    case rel => exact ⟨k + 1, more, by go_num, by omega, HR.out, by
                      obtain ⟨h1, h2⟩ := HDD.out
                      exact HM.out.old hlt h1 (by rw [h2]; exact he) (.inl (by rw [h2]; exact List.contains_iff_mem.1 HS1.out.symm))⟩
                    case measure => simp [intOf]; omega
                  | false =>
                    cases s2 with
                    | true =>
                      go_wp2_with fail
                      refine HH1.out.mono ?_
                      rintro e w1 ⟨rfl, rfl⟩
                      go_wp2_with fail
                      refine HH2.out.mono ?_
                      rintro e w1 ⟨rfl, rfl⟩
                      go_wp2
                      go_roundw
                      case rel => exact ⟨k + 1, more, by go_num, by omega, HR.out, by
                        obtain ⟨h1, h2⟩ := HDD.out
                        exact HM.out.old hlt h1 (by rw [h2]; exact he) (.inr (by rw [h2]; exact List.contains_iff_mem.1 HS2.out.symm))⟩
                      case measure => simp [intOf]; omega
                    | false =>
                      have hszw := HR.out.hs
                      have hown := HR.out.more.own
                      go_wp2_with fail
                      refine HH1.out.mono ?_
                      rintro e w1 ⟨rfl, rfl⟩
                      go_wp2_with fail
                      refine HH2.out.mono ?_
                      rintro e w1 ⟨rfl, rfl⟩
                      go_wp2_with (at_builtin; refine wpList_append_own _ rfl _ _ 26 rfl H 23 i0 (.int .u64 0) 1 8 Try.underlying26 hi0 hz0 hz1 hz2 rfl (by decide) _ _ _ rfl (hown.alloc _) ⟨w1.heap.size, 0, none⟩ 1 1 [.int .u64 d] rfl rfl (cell_one_new _ _ _) (by simp [Value.oneCell']) (by unfold maxLen; omega) (by omega) (by simp; omega) ?_)
                      intro v' w6 hown' hgrow _
                      have hr6 := (HR.out.below ((Below.refl _ _).alloc (Nat.le_refl _) (.cells #[.int .u64 d] 23))).grown hgrow (RowU.snoc hown')
                      have HR6 := Lib.hid hr6
                      clear hown' hgrow hr6 hown
                      go_wp2
                      go_roundw
                      case rel => exact ⟨k + 1, more ++ [d], by go_num, by omega, HR6.out, by
                        obtain ⟨h1, h2⟩ := HDD.out
                        have hu2 : U64 l[i].deps[k] := by rw [h2]; exact hu
                        have hx := HM.out.add HSN.out hlt h1 (by rw [h2]; exact he) HIN.out (by rw [h2]; exact fun h => by have := HS1.out; rw [List.contains_iff_mem.2 h] at this; cases this) (by rw [h2]; exact fun h => by have := HS2.out; rw [List.contains_iff_mem.2 h] at this; cases this) hu2
                        rw [h2] at hx
                        exact hx⟩
                      case measure => simp [intOf]; omega
              · have hdk : decide ((k : Int) < (vdeps.length : Int)) = false := by simp; omega
                have hdi : decide ((i : Int) < (l.length : Int)) = true := by simp; omega
                go_wp2
                go_roundw
                case rel => exact ⟨i + 1, more, by go_num, by omega, HR.out, HM.out.next hlt fun _ => by rw [HV.out]; show k = vdeps.length; omega⟩
                case measure => simp [intOf]; omega
        · obtain rfl : i = l.length := by omega
          have hd : decide ((l.length : Int) < (l.length : Int)) = false := by simp
          have hjoin : ∀ v' W', W'.ownsRow w.heap.size 23 1 v' (seen.length + more.length) (seen.map encU ++ more.map encU) → wr.grownBy W' (Value.slice sa seen.length sc).ownBlock → RowU w.heap.size v' (seen ++ more) W' ∧ Below w.heap.size w W' := fun v' W' h1 h2 =>
            ⟨RowU.join h1, HR.out.seen.grown HR.out.bel (Nat.le_trans HR.out.hw HR.out.hs) h2⟩
          have HJ := Lib.hid hjoin
          have hsj := HSN.out.join HM.out
          have hsjl := hsj.len HD.out
          rw [List.length_append] at hsjl
          have HSJ := Lib.hid hsj
          have hown := HR.out.seen.own
          have hnews := HR.out.more.news
          have hszw : w.heap.size ≤ wr.heap.size := Nat.le_trans HR.out.hw HR.out.hs
          clear hjoin hsj
          by_cases hme : more.length = 0
          · have hme2 : more = [] := List.eq_nil_of_length_eq_zero hme
            cases fst with
            | false =>
              have hnp : ¬ Path (rowOf l) f t := HSN.out.none (hme2 ▸ HM.out)
              have HNP := Lib.hid hnp
              clear hme2 hnp hnews hown
              obtain ⟨ml, hml2⟩ : ∃ ml, ml = more.length := ⟨_, rfl⟩
              rw [← hml2] at hme ⊢
              subst hme
              clear hml2
              go_wp2
              go_ret
              exact ⟨false, rfl, ⟨(fun h => by cases h), fun h => absurd h.2 HNP.out⟩, HR.out.bel⟩
            | true =>
              have HSJL := Lib.hid hsjl
              obtain ⟨hn1, hn2⟩ := hnews
              obtain ⟨sl, hsl⟩ : ∃ sl, sl = seen.length := ⟨_, rfl⟩
              obtain ⟨ml, hml2⟩ : ∃ ml, ml = more.length := ⟨_, rfl⟩
              have hmml : (more.map encU).length = ml := by rw [List.length_map, hml2]
              have hjj := HJ.out
              rw [← hsl] at hlen hsjl hown hjj ⊢
              rw [← hml2] at hml hsjl hme hn1 hjj ⊢
              have HSL := Lib.hid hsl
              have HML2 := Lib.hid hml2
              have HJJ := Lib.hid hjj
              clear hsl hml2 hjj
              subst hme
              go_wp2_with (at_builtin; refine wpList_append_any _ rfl _ _ 26 rfl w.heap.size 23 i0 (.int .u64 0) 8 Try.underlying26 hi0 hz0 hz1 hz2 rfl _ _ _ rfl hown _ 0 _ (more.map encU) rfl hmml hn1 hn2 (oneU more) (by unfold maxLen; omega) (by omega) hszw ?_)
              intro v' w6 hown' hgrow
              have HX := Lib.hid (HJJ.out v' w6 (by rw [hme2]; simpa using hown') hgrow)
              clear hown' hgrow hn1 hn2 hown hmml
              go_wp2
              go_roundg (meas (seen ++ more) false)
              case measure =>
                rw [HG.out]
                unfold meas
                rw [List.length_append, ← HSL.out, ← HML2.out]
                simp; try omega
              case rel => exact ⟨seen ++ more, false, rfl, HX.out.1, HX.out.2, HSJ.out, rfl⟩
          · have hmeg : ¬ ((more.length : Int) = 0) := by omega
            have HSJL := Lib.hid hsjl
            obtain ⟨hn1, hn2⟩ := hnews
            obtain ⟨sl, hsl⟩ : ∃ sl, sl = seen.length := ⟨_, rfl⟩
            obtain ⟨ml, hml2⟩ : ∃ ml, ml = more.length := ⟨_, rfl⟩
            have hmml : (more.map encU).length = ml := by rw [List.length_map, hml2]
            have hjj := HJ.out
            rw [← hsl] at hlen hsjl hown hjj ⊢
            rw [← hml2] at hml hsjl hme hmeg hn1 hjj ⊢
            have HSL := Lib.hid hsl
            have HML2 := Lib.hid hml2
            have HJJ := Lib.hid hjj
            clear hsl hml2 hjj
            have hmeg2 : ((ml : Int) == 0) = false := by simp; omega
            go_wp2_with (at_builtin; refine wpList_append_any _ rfl _ _ 26 rfl w.heap.size 23 i0 (.int .u64 0) 8 Try.underlying26 hi0 hz0 hz1 hz2 rfl _ _ _ rfl hown _ ml _ (more.map encU) rfl hmml hn1 hn2 (oneU more) (by unfold maxLen; omega) (by omega) hszw ?_)
            intro v' w6 hown' hgrow
            have HX := Lib.hid (HJJ.out v' w6 hown' hgrow)
            clear hown' hgrow hn1 hn2 hown hmml
            go_wp2
            go_roundg (meas (seen ++ more) false)
            case measure =>
              rw [HG.out]
              unfold meas
              rw [List.length_append, ← HSL.out, ← HML2.out]
              simp only [Bool.toNat_false]; omega
            case rel => exact ⟨seen ++ more, false, rfl, HX.out.1, HX.out.2, HSJ.out, rfl⟩
  · have hg64 : decide ((64 : Int) < (l.length : Int)) = true := by simp; omega
    clear hN
    go_enter Try.func16, Try.ntmps16
    go_wp2
    go_ret
    exact ⟨false, rfl, by simp [h64], Below.refl _ _⟩

end Go.Proofs.Ythbaldjdfehhlaa
