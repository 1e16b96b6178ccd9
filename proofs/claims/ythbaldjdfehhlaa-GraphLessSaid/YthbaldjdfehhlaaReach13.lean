/- Reach of package graph, by its contract. -/
import Derived.Test.YthbaldjdfehhlaaInR13
import Derived.Sort.LoopGhostIn
namespace Go.Proofs.Ythbaldjdfehhlaa
open Go.RowKit Gr Go.Sort Go.Maps Go.Shelf
attribute [local go_sem] Oper.semAt_some

set_option maxRecDepth 100000 in
set_option maxHeartbeats 4000000 in
theorem reach_any {w : World} {a : Option Addr} {c : Nat} {l : List NodeV} (hN : NodesF w a l) (hl : l.length ≤ 1000) (hdl : ∀ v ∈ l, v.deps.length ≤ 100000) (f t : Int) :
    Calls Try.prog 15 #[.slice a l.length c, .int .u64 f, .int .u64 t] w fun e w' => ∃ b, e = .returned (.bool b) ∧ (b = true ↔ l.length ≤ 64 ∧ Path (rowOf l) f t) ∧ Below w.heap.size w w' := by
  have HN := Lib.hid hN
  have HD := Lib.hid hdl
  clear hN hdl
  have hmm := @run_makeMap Try.prog
  refine (callsIn_wide (n := 3)).1 ?_
  refine callsIn_of_wp_marks Try.func15 rfl trivial ?_ rfl
  simp only [Try.ntmps15, List.size_toArray, List.length_cons, List.length_nil, Nat.reduceAdd, Nat.reduceSub, Array.replicate_succ, Array.replicate_zero, List.push_toArray, List.append_toArray, List.nil_append, List.cons_append]
  have hb0 : Below w.heap.size w ((w.alloc (.cells #[.int .u64 t] 23)).alloc (.cells #[.bool false] 4)) := ((Below.refl _ _).alloc (Nat.le_refl _) _).alloc (by simp) _
  have HB0 := Lib.hid hb0
  clear hb0
  by_cases h64 : l.length ≤ 64
  · have hd : decide ((64 : Int) < (l.length : Int)) = false := by simp; omega
    have HI := Lib.hid (ids_any (c := c) (HN.out.below HB0.out) hl)
    gi_wp2_with fail
    refine ⟨trivial, ?_⟩
    with_reducible refine (callsIn_wide.2 HI.out).mono ?_
    rintro e w1 ⟨b1, rfl, hb1, hs1, hbel1⟩
    simp only [World.size_alloc] at hbel1
    have HZ := Lib.hid (zs_start (f := f) hbel1 hs1)
    have HB1 := Lib.hid hbel1
    clear HI hs1 hbel1
    gi_wp2_with fail
    refine wpIn_loop_ghost_k (fun m a' wr => ∃ (u10 u19 u20 u21 u22 u23 u24 u25 u26 u27 u28 u29 u30 u31 u32 u33 u34 u35 u36 u37 u38 u39 u40 u41 u42 u43 u44 u45 u46 u47 u48 u49 : Value) (ds : List Deferred) (nb : Nat), (∃ S v xs, ZS w l t w1.heap.size b1 (w1.heap.size + 1 + 1) (w1.heap.size + 1) S nb v xs wr ∧ Srch l f t S xs ∧ m = xs.length + (l.length - S.length) ∧ m ≤ l.length + 1 ∧ Marks w.heap.size wr.heap.size wr ds) ∧ a' = { tmps := #[.slice a l.length c, .int .u64 f, .int .u64 t, undef, undef, .pointer (some ⟨w.heap.size, 0, none⟩), .pointer (some ⟨w.heap.size + 1, 0, none⟩), .pointer (some ⟨w1.heap.size, 0, none⟩), .pointer (some ⟨w1.heap.size + 1 + 1, 0, none⟩), .pointer (some ⟨nb, 0, none⟩), u10, .slice a l.length c, .int .i64 (l.length : Int), .bool false, .slice a l.length c, .map (some b1), .map (some (w1.heap.size + 1)), .int .u64 f, .slice (some ⟨w1.heap.size + 1 + 1 + 1, 0, none⟩) 1 1, u19, u20, u21, u22, u23, u24, u25, u26, u27, u28, u29, u30, u31, u32, u33, u34, u35, u36, u37, u38, u39, u40, u41, u42, u43, u44, u45, u46, u47, u48, u49], defers := ds }) (l.length + 1) ?start ?round
    case start =>
      refine ⟨_, _, _, _, _, _, _, _, _, _, _, _, _, _, _, _, _, _, _, _, _, _, _, _, _, _, _, _, _, _, _, _, [], _, ⟨[], _, [f], HZ.out, Srch.start l f t, by simp; omega, Nat.le_refl _, trivial⟩, rfl⟩
    case round =>
      rintro m a' wr ⟨u10, u19, u20, u21, u22, u23, u24, u25, u26, u27, u28, u29, u30, u31, u32, u33, u34, u35, u36, u37, u38, u39, u40, u41, u42, u43, u44, u45, u46, u47, u48, u49, ds, nb, ⟨S, v, xs, hz, hs, hm, hml, hM⟩, rfl⟩ J K hJ hK
      have HK := Lib.hid hK
      have HJ := Lib.hid hJ
      have HZS := Lib.hid hz
      have HS := Lib.hid hs
      have HM := Lib.hid hM
      have c9 := hz.nxt.cell
      obtain ⟨g, o, cap, rfl, hgB, hgl, hcell⟩ := hz.row.shape
      have HCELL := Lib.hid hcell
      obtain ⟨n, hn⟩ : ∃ n, n = xs.length := ⟨_, rfl⟩
      rw [← hn] at c9
      clear hz hs hM hJ hK hcell HZ
      cases xs with
      | nil =>
        simp at hn
        subst hn
        have c6 := HZS.out.res.cell
        have f6 := HZS.out.res.frozen
        gi_wp2_with fail
        have hr6 : Boxed (wr.setCell ⟨w.heap.size + 1, 0, none⟩ (.bool false)) (w.heap.size + 1) 4 (.bool false) := HZS.out.res.set _
        refine leaves_marks (lo := w.heap.size) (hi := wr.heap.size) (HM.out.keep (Nat.le_refl _) fun D d1 d2 d3 _ => ?_) (Nat.le_trans HZS.out.bel.size (KeepsOthers.setCell wr ⟨w.heap.size + 1, 0, none⟩ (.bool false)).size) ?_
        · rw [d3]
          exact (KeepsOthers.setCell wr ⟨w.heap.size + 1, 0, none⟩ (.bool false)).same D _ d3 rfl
        · intro w' hsh
          have hce := (show Boxed w' (w.heap.size + 1) 4 (.bool false) from hsh.cells _ _ _ _ hr6).cell
          refine ⟨.bool false, by simp [results, Try.results15, go_sem, hce], ?_⟩
          exact .inl ⟨rfl, fun h => HS.out.none h, (HZS.out.bel.setCell (p := ⟨w.heap.size + 1, 0, none⟩) (by show w.heap.size ≤ w.heap.size + 1; omega) (.bool false)).trans hsh.bel⟩
      | cons x q =>
        have hn1 : n = q.length + 1 := by simpa using hn
        have h0 : decide ((0 : Int) < (n : Int)) = true := by simp; omega
        have cx : wr.cell? ⟨g, o, none⟩ = some (.int .u64 x) := by
          have := HCELL.out 0 (by simp)
          simpa using this
        have hn0 : 0 < n := by omega
        have HN1 := Lib.hid hn1
        have HDO := Lib.hid (depsOf_any a l.length c x wr)
        have HMM := Lib.hid hm
        have hvp : ∀ k, (Value.slice (some ⟨g, o, none⟩) (x :: q).length cap).ownBlock = some k → k ≠ wr.heap.size + 1 := fun k hk => by
          have := (HZS.out.row.lt k hk).2
          omega
        have HVP := Lib.hid hvp
        clear hn hn1 hm hvp
        gi_wp2_with fail
        refine ⟨trivial, ?_⟩
        with_reducible refine (callsIn_wide.2 HDO.out).mono ?_
        rintro e wX ⟨rfl, hwX⟩
        have zX : wX.heap.size = wr.heap.size + 1 + 1 := by rw [hwX]; simp
        have hbX : Below wr.heap.size wr wX := by rw [hwX]; exact ((Below.refl _ _).alloc (Nat.le_refl _) _).alloc (by simp) _
        have hp1 : wX.cell? ⟨wr.heap.size, 0, none⟩ = some (.slice a l.length c) := by
          rw [hwX]
          exact ((Boxed.new wr 22 (.slice a l.length c)).alloc _).cell
        have hp2 : wX.cell? ⟨wr.heap.size + 1, 0, none⟩ = some (.int .u64 x) := by
          have := (Boxed.new (wr.alloc (.cells #[.slice a l.length c] 22)) 23 (.int .u64 x)).cell
          rw [World.size_alloc] at this
          rw [hwX]
          exact this
        have hzX := HZS.out.below hbX
        have HZX := Lib.hid hzX
        have hcst : Cst w b1 (w1.heap.size + 1) nb (wr.heap.size + 1) wX.heap.size := by
          have q1 := HZS.out.nset.lt
          have q2 := HZS.out.rset.lt
          have q3 := HZS.out.nxt.lt
          exact ⟨by omega, by omega, by omega, by omega, HZS.out.hb2, HZS.out.hnb⟩
        have CST := Lib.hid hcst
        have HPX := Lib.hid (And.intro hp1 hp2)
        have hmX : Marks w.heap.size wX.heap.size wX ds := HM.out.keep (by omega) fun D d1 d2 d3 _ => hbX.block D d2
        have HMX := Lib.hid hmX
        have ZX := Lib.hid zX
        have hww : w.heap.size ≤ wr.heap.size := HZS.out.bel.size
        have HWW := Lib.hid hww
        clear HDO hwX hbX hp1 hp2 hzX hcst hmX zX hww c9 cx
        gi_wp2_with fail
        refine range_told_loop (by omega) (gf := 45) (lb := #[.pointer (some ⟨wr.heap.size, 0, none⟩), .pointer (some ⟨wr.heap.size + 1, 0, none⟩)]) rfl (enters_of Try.func45 (by kernel_rfl) rfl)
          (encs := fun x => #[encU x]) (Kp := KS (Kept w (wr.heap.size + 1))) (T := ToldP (depList l x)) (S := fun xs => xs = depList l x) (N := (depList l x).length) (w0 := wX)
          (fun y J Jx W hW hJ hJx hY h0 => depsOf1_in (3 - 1) (by omega) y wr.heap.size (wr.heap.size + 1) (Kept w (wr.heap.size + 1)) a c l x w HN.out (fun k hk => .inl hk) (.inr rfl) (by omega) (fun v hv => by have := HD.out v hv; omega) J Jx
            W (fun k hk => (hW.block k (by have := HWW.out; have := ZX.out; omega)).trans (HZX.out.bel.block k hk)) (fun k hk => Nat.lt_of_lt_of_le (CST.out.kept k hk) hW.size) hJ (by have := ZX.out; have := hW.size; omega) hY
            ((hW.cell (p := ⟨wr.heap.size, 0, none⟩) (by have := ZX.out; show wr.heap.size < _; omega)).trans HPX.out.1) ((hW.cell (p := ⟨wr.heap.size + 1, 0, none⟩) (by have := ZX.out; show wr.heap.size + 1 < _; omega)).trans HPX.out.2) h0)
          (fun h k => h.trans k) (fun W y R o' hy _ => KS.put W y o' (fun hk => by have := CST.out.kept y hk; omega)) (ToldP.own _ _) (Below.refl _ _) (fun _ => rfl)
          (InR w l f t w1.heap.size b1 (w1.heap.size + 1 + 1) (w1.heap.size + 1) nb (wr.heap.size + 1) wX.heap.size m ds x)
          (fun e _ W => e = Code.ret ∧ Path (rowOf l) f t ∧ Boxed W (w.heap.size + 1) 4 (.bool true) ∧ Below w.heap.size w W ∧ Marks w.heap.size wX.heap.size W ds)
          (fun s X Y row h hg hr => h.of CST.out hg hr) ?ownx ⟨⟨S, _, q, HZX.out, HS.out.part, HVP.out, by rw [HMM.out]; rfl⟩, HMX.out, Nat.le_refl _⟩ (fun d => { tmps := #[.slice a l.length c, .int .u64 f, .int .u64 t, undef, undef, .pointer (some ⟨w.heap.size, 0, none⟩), .pointer (some ⟨w.heap.size + 1, 0, none⟩), .pointer (some ⟨w1.heap.size, 0, none⟩), .pointer (some ⟨w1.heap.size + 1 + 1, 0, none⟩), .pointer (some ⟨nb, 0, none⟩), encU d, .slice a l.length c, .int .i64 (l.length : Int), .bool false, .slice a l.length c, .map (some b1), .map (some (w1.heap.size + 1)), .int .u64 f, .slice (some ⟨w1.heap.size + 1 + 1 + 1, 0, none⟩) 1 1, .slice (some ⟨g, o, none⟩) n cap, .int .i64 (n : Int), .bool true, u22, u23, .slice a l.length c, .slice (some ⟨g, o, none⟩) n cap, .pointer (some ⟨g, o, none⟩), .int .u64 x, .func (.func 45) #[] #[.pointer (some ⟨wr.heap.size, 0, none⟩), .pointer (some ⟨wr.heap.size + 1, 0, none⟩)], encU d, u30, u31, u32, u33, u34, u35, u36, u37, u38, u39, u40, u41, u42, u43, u44, u45, u46, u47, u48, u49], defers := [] }) ?assign ?body ?done ?stop
        case assign =>
          intro y d W K hK
          gi_wp2
          exact hK
        case ownx =>
          rintro e s X Y row ⟨h1, h2, h3, h4, h5⟩ hg hr
          have hr2 : ∀ r, row = some r → ∃ o : Obj, X.heap[r]? = some o ∧ o.isCells = false := fun r e => (hr r e).2
          have hz0 := HWW.out
          have hz1 := ZX.out
          refine ⟨h1, h2, (grownBy_keeps_cells hg hr2 h3 rfl).trans h3, h4.grown hg h4.size (fun k e => by have := (hr k e).1; omega), h5.keep (Nat.le_refl _) fun D d1 d2 d3 _ => hg.block D (Array.getElem?_eq_some_iff.1 d3).1 fun e => ?_⟩
          have := (hr D e.symm).1
          omega
        case body =>
          rintro y pre d W ⟨⟨S', v', q', hz', hp', hv', hm'⟩, hM', hs'⟩ hT hlt
          have hd : d ∈ depList l x := by
            obtain ⟨r, hr⟩ := hT
            rw [← hr]
            simp
          have hdu : U64 d := by
            obtain ⟨v, hv, _, hdv⟩ := mem_depList.1 hd
            exact (HN.out.each v hv).deps.fit d hdv
          have c5 := hz'.to_.cell
          have c6 := hz'.res.cell
          have f6 := hz'.res.frozen
          have c7 := hz'.nbx.cell
          have HZ' := Lib.hid hz'
          have HP' := Lib.hid hp'
          have HV' := Lib.hid hv'
          have HM' := Lib.hid hM'
          have HMM' := Lib.hid hm'
          have HDD := Lib.hid hd
          clear hz' hp' hv' hM' hm' hT hd hlt
          by_cases hdt : d = t
          · have HPATH := Lib.hid (HP'.out.from_ HDD.out)
            subst hdt
            gi_wp2_with fail
            refine ⟨(KeepsOthers.setCell W ⟨w.heap.size + 1, 0, none⟩ (.bool true)).from _, rfl, HPATH.out, HZ'.out.res.set _, HZ'.out.bel.setCell (p := ⟨w.heap.size + 1, 0, none⟩) (by show w.heap.size ≤ w.heap.size + 1; omega) _, HM'.out.keep (Nat.le_refl _) fun D d1 d2 d3 _ => ?_⟩
            rw [d3]
            exact (KeepsOthers.setCell W ⟨w.heap.size + 1, 0, none⟩ (.bool true)).same D _ d3 rfl
          · have HH := Lib.hid (has_any HZ'.out.nset hdu)
            obtain ⟨r1, hr1⟩ : ∃ r, (idSet l).contains d = r := ⟨_, rfl⟩
            rw [hr1] at HH
            have HR1 := Lib.hid hr1
            clear hr1
            cases r1 with
            | false =>
              gi_wp2_with fail
              refine ⟨trivial, ?_⟩
              with_reducible refine (CallsIn.inRound y (callsIn_wide.2 HH.out)).mono ?_
              rintro e W2 ⟨rfl, hb2⟩
              have HB2 := Lib.hid hb2
              clear HH hb2 c5 c6 f6 c7
              gi_wp2_with fail
              refine ⟨trivial, ?_⟩
              gi_wp2_with fail
              have hno : d ∉ ids (rowOf l) := fun hi => by
                have h1 := HR1.out
                rw [rowOf_ids] at hi
                rw [List.contains_iff_mem.2 (mem_idSet.2 hi)] at h1
                cases h1
              exact told_old CST.out HZ'.out HP'.out HV'.out HMM'.out HM'.out hs' HB2.out hdt (fun hi => absurd hi hno) _
            | true =>
              gi_wp2_with fail
              refine ⟨trivial, ?_⟩
              with_reducible refine (CallsIn.inRound y (callsIn_wide.2 HH.out)).mono ?_
              rintro e W1 ⟨rfl, hb1'⟩
              have HB1' := Lib.hid hb1'
              have c8 := (HZ'.out.below hb1').rbx.cell
              have HH2 := Lib.hid (has_any (HZ'.out.below hb1').rset hdu)
              obtain ⟨r2, hr2⟩ : ∃ r, S'.contains d = r := ⟨_, rfl⟩
              rw [hr2] at HH2
              have HR2 := Lib.hid hr2
              clear HH hb1' hr2 c5 c6 f6 c7
              cases r2 with
              | true =>
                gi_wp2_with fail
                refine ⟨trivial, ?_⟩
                with_reducible refine (CallsIn.inRound y (callsIn_wide.2 HH2.out)).mono ?_
                rintro e W2 ⟨rfl, hb2⟩
                have HB2 := Lib.hid (HB1'.out.trans (hb2.mono HB1'.out.size))
                clear HH2 hb2 c8
                gi_wp2_with fail
                exact told_old CST.out HZ'.out HP'.out HV'.out HMM'.out HM'.out hs' HB2.out hdt (fun hi => List.contains_iff_mem.1 HR2.out) _
              | false =>
                gi_wp2_with fail
                refine ⟨trivial, ?_⟩
                with_reducible refine (CallsIn.inRound y (callsIn_wide.2 HH2.out)).mono ?_
                rintro e W2 ⟨rfl, hb2⟩
                have HB2 := Lib.hid (HB1'.out.trans (hb2.mono HB1'.out.size))
                have c82 := (HZ'.out.below HB2.out).rbx.cell
                have hlen := HP'.out.s.len
                have HAD := Lib.hid (add_any (HZ'.out.below HB2.out).rset hdu (by omega))
                clear HH2 hb2 c8
                gi_wp2_with fail
                refine ⟨trivial, ?_⟩
                with_reducible refine (CallsIn.inRound y (callsIn_wide.2 HAD.out)).mono ?_
                rintro e W3 ⟨rfl, hs3, hg3⟩
                have hz3 := (HZ'.out.below HB2.out).add hg3 hs3
                have c9 := hz3.nxt.cell
                have hz3' := hz3.below ((Below.refl _ W3).alloc (Nat.le_refl _) (.cells #[.int .u64 d] 23))
                have hml' := HMM'.out
                obtain ⟨v4, W4, hrun, hrow4, hg4, hown⟩ := run_append_mid hz3'.row (by simp; omega) (by simp; have := hz3.bel.size; have := hz3.res.lt; omega) 26 ⟨W3.heap.size, 0, none⟩ d ((Boxed.new W3 23 (.int .u64 d)).cell)
                obtain ⟨g4, o4, cap4, rfl, _⟩ := hrow4.shape
                have hb4 := hz3'.nxt_grown hg4
                have c94 := hb4.cell
                have f94 := hb4.frozen
                have HS3 := Lib.hid hs3
                have HG3 := Lib.hid hg3
                have HROW4 := Lib.hid hrow4
                have HG4 := Lib.hid hg4
                have HOWN := Lib.hid hown
                clear HAD hs3 hg3 hz3 hz3' hrow4 hg4 hown hb4 c82
                gi_wp2_with (gi_at_builtin; refine wpListIn_append_run _ rfl _ _ 26 rfl _ _ rfl rfl _ W4 hrun ?_)
                have hi : d ∈ ids (rowOf l) := by
                  rw [rowOf_ids]
                  exact mem_idSet.1 (List.contains_iff_mem.1 HR1.out)
                have hn : d ∉ S' := fun h => by
                  have h1 := HR2.out
                  rw [List.contains_iff_mem.2 h] at h1
                  cases h1
                rw [show q'.length + 1 + 1 = (x :: q' ++ [d]).length by simp]
                exact told_new CST.out HZ'.out HP'.out HV'.out HMM'.out HM'.out hs' HB2.out hdt HDD.out hi hn HG3.out HS3.out HROW4.out HG4.out HOWN.out _
        case done =>
          rintro D ys W hD rfl _ ⟨⟨S', v', q', hz', hp', hv', hm'⟩, hM', hs'⟩ hdef
          have c9 := hz'.nxt.cell
          obtain ⟨g', o', cap', rfl, hgB', hgl', hcell'⟩ := hz'.row.shape
          have HZ' := Lib.hid hz'
          have HNX := Lib.hid hp'.next
          have HM' := Lib.hid (hM'.push (by have := HWW.out; have := ZX.out; omega) hD hdef)
          have HMM' := Lib.hid hm'
          have htail := hz'.row.tail
          clear hz' hp' hv' hM' hm' hcell' hdef hD
          rcases htail with ⟨rfl, rfl, hmid⟩ | ⟨hc1, hmid⟩
          · have HMID := Lib.hid hmid
            clear hmid
            gi_wp2_with fail
            have hmid := HMID.out
            refine HK.out _ _ (Handed.intro (0 + (l.length - S'.length)) (by have := HMM'.out; omega) (HJ.out _ _ _ ⟨_, _, _, _, _, _, _, _, _, _, _, _, _, _, _, _, _, _, _, _, _, _, _, _, _, _, _, _, _, _, _, _, _, _, ⟨S', _, [], HZ'.out.turn hmid, HNX.out, rfl, by have := HMM'.out; omega, HM'.out.keep (by simp) fun D' _ h2 _ _ => Below.heap_alloc W _ D' h2⟩, rfl⟩))
          · have HMID := Lib.hid hmid
            clear hmid
            gi_wp2_with fail
            have hmid := HMID.out
            refine HK.out _ _ (Handed.intro (q'.length + (l.length - S'.length)) (by have := HMM'.out; omega) (HJ.out _ _ _ ⟨_, _, _, _, _, _, _, _, _, _, _, _, _, _, _, _, _, _, _, _, _, _, _, _, _, _, _, _, _, _, _, _, _, _, ⟨S', _, q', HZ'.out.turn hmid, HNX.out, rfl, by have := HMM'.out; omega, HM'.out.keep (by simp) fun D' _ h2 _ _ => Below.heap_alloc W _ D' h2⟩, rfl⟩))
        case stop =>
          rintro D e pre W hD ⟨rfl, hpath, hres, hbel, hM'⟩ hdef
          have HPATH := Lib.hid hpath
          have HRES := Lib.hid hres
          have HBEL := Lib.hid hbel
          have HM' := Lib.hid (hM'.push (by have := HWW.out; have := ZX.out; omega) hD hdef)
          clear hpath hres hbel hM' hdef hD
          gi_wp2_with fail
          refine leaves_marks (lo := w.heap.size) (hi := W.heap.size) HM'.out HBEL.out.size ?_
          intro w' hsh
          have hce := (show Boxed w' (w.heap.size + 1) 4 (.bool true) from hsh.cells _ _ _ _ HRES.out).cell
          refine ⟨.bool true, by simp [results, Try.results15, go_sem, hce], true, rfl, ?_, HBEL.out.trans hsh.bel⟩
          simp only [true_iff]
          exact ⟨h64, HPATH.out⟩
  · have hd : decide ((64 : Int) < (l.length : Int)) = true := by simp; omega
    have hres : ((w.alloc (.cells #[.int .u64 t] 23)).alloc (.cells #[.bool false] 4)).cell? ⟨w.heap.size + 1, 0, none⟩ = some (.bool false) := by
      have := (Boxed.new (w.alloc (.cells #[.int .u64 t] 23)) 4 (.bool false)).cell
      rwa [World.size_alloc] at this
    gi_wp2_with fail
    refine ⟨.bool false, by simp [results, Try.results15, go_sem, hres], false, rfl, ?_, HB0.out⟩
    simp
    intro h
    exact absurd h h64

end Go.Proofs.Ythbaldjdfehhlaa
