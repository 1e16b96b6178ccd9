/- Append, by its contract: behind a later version; of a file that is not there. -/
import Derived.Test.YtchmipeehhbniaaDisk11
namespace Go.Proofs.Ytchmipeehhbniaa
open Go.RowKit Go.Maps Dsk

set_option maxRecDepth 100000 in
set_option maxHeartbeats 2000000 in
theorem append_later (g B N : Nat) (o : Tags) (M : Files) (l : Name) (r : List Ver) (v : Ver) (a : Option Addr) (cap : Nat) (zs : List Int) (w : World) (hd : DiskAt w B o g M N) (hp : Reads w a zs) (hna : a = none → cap = 0) (hl : (M.at l).later = r ++ [v]) (ht : v.there = true)
    (hzl : v.bs.length + zs.length ≤ 1048576) (h1 : 1 ≤ l.length) (h2 : l.length ≤ 64) (hN : N < 1000000000) (hBw : B ≤ w.heap.size) (hn : r.length < 900000000) :
    Calls Try.prog 9 #[.pointer (some ⟨g, 0, none⟩), .string ⟨l.toArray⟩, .slice a zs.length cap] w fun e w' => e = .returned (.int .i64 0) ∧ ∃ o', DiskAt w' B o' g (upd M l (some ((M.at l).app zs))) (cntN M l N) ∧ Step o w o' w' := by
  obtain ⟨b, D, hd⟩ := hd
  obtain ⟨i0, hi, hz0, hz1, hz2⟩ := info_parts info5
  have hcell := hd.cell
  obtain ⟨⟨t, sa, sn, sc, wh, la, ln, lc, ls⟩, hf, hrun, _⟩ := hd.look l (by unfold maxLen; omega)
  simp only [mkV] at hrun
  have hb2 : Below w.heap.size w (w.alloc (.cells #[.bool t, .slice sa sn sc, .int .i64 wh, .slice la ln lc, .bool ls] 47)) := (Below.refl _ _).alloc (Nat.le_refl _) _
  have hH : Held (w.alloc (.cells #[.bool t, .slice sa sn sc, .int .i64 wh, .slice la ln lc, .bool ls] 47)) w.heap.size ⟨t, sa, sn, sc, wh, la, ln, lc, ls⟩ := heap_alloc_new _ _
  have hlen : (M.at l).later.length = r.length + 1 := by rw [hl]; simp
  have hln : ln = r.length + 1 := hf.ln.trans hlen
  subst hln
  obtain ⟨ss, k1, k2, k3, k4⟩ := hf.lt
  rw [hlen] at k1
  obtain ⟨ss0, s, rfl, hss0⟩ : ∃ ss0 s, ss = ss0 ++ [s] ∧ ss0.length = r.length := by
    rcases List.eq_nil_or_concat ss with h | ⟨ss0, s, h⟩
    · rw [h] at k1; simp at k1
    · rw [List.concat_eq_append] at h
      exact ⟨ss0, s, h, by rw [h] at k1; simpa using k1⟩
  rw [hlen, hl, verCells_snoc _ _ _ _ hss0] at k2
  have hbl : BytesAt w B o (.file l (r.length + 2)) v.bs s := by
    have h := k4 r.length (by omega)
    have e1 : (M.at l).later[r.length]'(by omega) = v := by simp [hl]
    have e2 : (ss0 ++ [s]).getD r.length undef = s := by simp [List.getD, ← hss0]
    rw [e1, e2] at h
    exact h
  have hbr : ∀ i (h : i < r.length), BytesAt w B o (.file l (i + 2)) r[i].bs (ss0.getD i undef) := fun i hi' => by
    have h := k4 i (by omega)
    have e1 : (M.at l).later[i]'(by omega) = r[i] := by simp [hl, hi']
    have e2 : (ss0 ++ [s]).getD i undef = ss0.getD i undef := by simp [List.getD, List.getElem?_append, show i < ss0.length by omega]
    rw [e1, e2] at h
    exact h
  obtain ⟨xa, xc, rfl⟩ := hbl.1.shape
  obtain ⟨gl, rfl⟩ : ∃ gl, la = some ⟨gl, 0, none⟩ := by
    rcases k2.2 with ⟨_, hn0⟩ | ⟨gl, cap, cur, hv, _⟩
    · omega
    · simp only [FV.lt, Value.slice.injEq] at hv
      exact ⟨gl, hv.1⟩
  have hog : o gl = some (.file l 1) := k3 gl rfl
  have hgs := (hd.own gl (by rw [hog]; simp)).2
  have add : ∀ j, ((⟨gl, 0, none⟩ : Addr).add j) = ⟨gl, j, none⟩ := fun j => by unfold Addr.add; split <;> simp_all
  have hcs := k2.cells (g := gl) rfl
  have y0 : w.cell? ⟨gl, r.length * 3, none⟩ = some (.bool true) := by
    rw [← add, ← ht]
    exact hcs _ _ (by rw [List.getElem?_append_right (by rw [verCells_len _ _ hss0]; omega), verCells_len _ _ hss0]; simp)
  have y1 : w.cell? ⟨gl, r.length * 3 + 1, none⟩ = some (.slice xa v.bs.length xc) := by
    rw [← add]
    exact hcs _ _ (by rw [List.getElem?_append_right (by rw [verCells_len _ _ hss0]; omega), verCells_len _ _ hss0, show r.length * 3 + 1 - r.length * 3 = 1 by omega]; rfl)
  obtain ⟨bs, hbs⟩ : ∃ bs, bs = v.bs := ⟨_, rfl⟩
  rw [← hbs] at y1 hzl
  have hrow : Row (w.alloc (.cells #[.bool t, .slice sa sn sc, .int .i64 wh, .slice (some ⟨gl, 0, none⟩) (r.length + 1) lc, .bool ls] 47)) B bs (.slice xa bs.length xc) := by
    rw [hbs]
    exact hbl.1.below hb2
  have hyf : w.frozen? ⟨gl, r.length * 3 + 1, none⟩ = false := by
    rcases k2.2 with ⟨hv, _⟩ | ⟨g', cap, cur, hv, _, hg', _⟩
    · cases hv
    · simp only [FV.lt, Value.slice.injEq, Option.some.injEq, Addr.mk.injEq] at hv
      obtain ⟨⟨rfl, _⟩, _⟩ := hv
      exact frozen_row hg'
  have z0 : (w.alloc (.cells #[.bool t, .slice sa sn sc, .int .i64 wh, .slice (some ⟨gl, 0, none⟩) (r.length + 1) lc, .bool ls] 47)).cell? ⟨gl, r.length * 3, none⟩ = some (.bool true) := (hb2.cell (p := ⟨gl, r.length * 3, none⟩) hgs).trans y0
  have z1 : (w.alloc (.cells #[.bool t, .slice sa sn sc, .int .i64 wh, .slice (some ⟨gl, 0, none⟩) (r.length + 1) lc, .bool ls] 47)).cell? ⟨gl, r.length * 3 + 1, none⟩ = some (.slice xa bs.length xc) := (hb2.cell (p := ⟨gl, r.length * 3 + 1, none⟩) hgs).trans y1
  have HYF := Lib.hid ((hb2.frozen (p := ⟨gl, r.length * 3 + 1, none⟩) hgs).trans hyf)
  have HR := Lib.hid (refusal_ok g b l w hcell h1 h2)
  have HNW := Lib.hid (now_later w.heap.size gl r.length lc _ (by omega) hH.cells.2.2.2.1)
  have HB := Lib.hid hb2
  have HH := Lib.hid hH
  have hpb := (hp.below hb2).bytes
  have hpn : a = none → zs.length = 0 ∧ cap = 0 := fun e => ⟨hp.none_len e, hna e⟩
  have HF := Lib.hid hf
  have HD := Lib.hid hd
  have HL := Lib.hid hl
  have HBS := Lib.hid hbs
  have HPR := Lib.hid hp.hr
  have HSS := Lib.hid hss0
  have HK2 := Lib.hid k2
  have HK3 := Lib.hid k3
  have HBR := Lib.hid hbr
  have HBL := Lib.hid hbl
  have HOG := Lib.hid hog
  have HGS := Lib.hid hgs
  have hzd : decide (1048576 - (bs.length : Int) < (zs.length : Int)) = false := by simp; omega
  clear hf hd hl hbs hp hna hH hb2 ht hss0 k1 k2 k3 k4 hbr hbl hog add hcs hlen y0 y1 hgs hyf
  go_enter Try.func9, Try.ntmps9
  go_wp2_with fail
  refine HR.out.mono ?_
  rintro e w1 ⟨rfl, rfl⟩
  go_wp2_with fail
  refine HNW.out.mono ?_
  rintro e w1 ⟨rfl, rfl⟩
  generalize hw2 : (w.alloc (.cells #[.bool t, .slice sa sn sc, .int .i64 wh, .slice (some ⟨gl, 0, none⟩) (r.length + 1) lc, .bool ls] 47)) = w2 at *
  have HW2 := Lib.hid hw2
  have hsz : w2.heap.size = w.heap.size + 1 := by rw [← hw2]; simp
  have HSZ := Lib.hid hsz
  clear hw2 hsz hrun hcell
  go_wp2_with (at_builtin; go_loud (refine wpList_append_lies _ rfl _ _ 22 rfl B 5 i0 (.int .u8 0) 1 1 Try.underlying22 hi hz0 hz1 hz2 rfl (by decide) _ _ _ rfl hrow a zs.length cap (zs.map (Value.int .u8)) rfl (by simp) hpn hpb (ints_oneCell .u8 _) (by unfold maxLen; omega) (by omega) (by have := HB.out.size; omega) ?_))
  intro v' w3 hown hg3 hlies
  replace hg3 : w2.grownBy w3 (Value.slice xa v.bs.length xc).ownBlock := by rw [← HBS.out]; exact hg3
  replace hlies : v'.ownBlock = (Value.slice xa v.bs.length xc).ownBlock ∨ v'.ownBlock = some w2.heap.size := by rw [← HBS.out]; exact hlies
  obtain ⟨a', c', rfl, _⟩ := slice_shape hown
  have hb1 : (some w.heap.size : Option Nat) ≠ (Value.slice xa v.bs.length xc).ownBlock := fun e => by
    have h3 := HBL.out.2 w.heap.size e.symm
    have := (HD.out.own w.heap.size (by rw [h3]; simp)).2
    omega
  have hgl3 : (some gl : Option Nat) ≠ (Value.slice xa v.bs.length xc).ownBlock := fun e => by
    have h3 := HBL.out.2 gl e.symm
    rw [HOG.out] at h3
    simp at h3
  have hx3 : Held w3 w.heap.size ⟨t, sa, sn, sc, wh, some ⟨gl, 0, none⟩, r.length + 1, lc, ls⟩ := (hg3.block _ (by rw [HSZ.out]; omega) hb1).trans HH.out
  obtain ⟨d0, d1, d2, d3, d4⟩ := hx3.cells
  dsimp only at d0 d1 d2 d3 d4
  have f4 := frozen_row (i := 4) hx3
  have hglb := hg3.block gl (by rw [HSZ.out]; have := HGS.out; omega) hgl3
  have e1 : w3.cell? ⟨gl, r.length * 3 + 1, none⟩ = some (.slice xa bs.length xc) := (World.cell?_of_block (a := ⟨gl, r.length * 3 + 1, none⟩) hglb).trans z1
  have fe : w3.frozen? ⟨gl, r.length * 3 + 1, none⟩ = false := (World.frozen?_of_block (a := ⟨gl, r.length * 3 + 1, none⟩) hglb).trans HYF.out
  have hne : gl ≠ w.heap.size := by have := HGS.out; omega
  have g4 : (w3.setCell ⟨gl, r.length * 3 + 1, none⟩ (.slice a' (bs.length + zs.length) c')).cell? ⟨w.heap.size, 4, none⟩ = some (.bool ls) := by
    rw [World.cell?_setCell_far _ _ _ _ (by exact hne)]; exact d4
  have g5 : (w3.setCell ⟨gl, r.length * 3 + 1, none⟩ (.slice a' (bs.length + zs.length) c')).frozen? ⟨w.heap.size, 4, none⟩ = false := by
    rw [World.frozen?_setCell]; exact f4
  have HX3 := Lib.hid hx3
  have HOWN := Lib.hid hown
  have HG3 := Lib.hid hg3
  have HLIES := Lib.hid hlies
  have HB1 := Lib.hid hb1
  have HNE := Lib.hid hne
  clear hx3 hown hg3 hlies hb1 hrow hpb hpn hglb hgl3 z0 z1 d0 d1 d2 d3 hne
  go_wp2
  obtain ⟨W5, hW5⟩ : ∃ W5, W5 = ((w3.setCell ⟨gl, r.length * 3 + 1, none⟩ (.slice a' (bs.length + zs.length) c')).setCell ⟨w.heap.size, 4, none⟩ (.bool true)) := ⟨_, rfl⟩
  rw [← hW5]
  have hx5 : Held W5 w.heap.size ⟨t, sa, sn, sc, wh, some ⟨gl, 0, none⟩, r.length + 1, lc, true⟩ := by
    rw [hW5]
    exact cells_set (show ((w3.setCell ⟨gl, r.length * 3 + 1, none⟩ (.slice a' (bs.length + zs.length) c')).heap[w.heap.size]? = _) by rw [Below.heap_setCell _ _ _ _ (fun e => HNE.out e.symm)]; exact HX3.out) 4 _
  have hg45 : (w3.setCell ⟨gl, r.length * 3 + 1, none⟩ (.slice a' (bs.length + zs.length) c')).grownBy W5 (some w.heap.size) := by
    rw [hW5]
    exact World.grownBy_setCell _ _ _ _
  have HTAG : Hid (∀ k, some k = some gl ∨ (Value.slice xa v.bs.length xc).ownBlock = some k → o k ≠ none) := fun k e => by
    rcases e with e | e
    · cases e; rw [HOG.out]; simp
    · rw [HBL.out.2 k e]; simp
  have hok5 : (v.app zs).ok := Ver.app_ok (HF.out.ok.2 v (by rw [HL.out]; simp)) (by rw [← HBS.out]; exact hzl) HPR.out
  have hg3' : w.grownBy w3 (Value.slice xa v.bs.length xc).ownBlock := (World.grownBy_below HB.out _).andThen HG3.out (fun j e => .inr e)
  have hblk : ∀ k, k < w.heap.size → o k = none → W5.heap[k]? = w.heap[k]? := fun k hk e => by
    rw [hW5, Below.heap_setCell _ _ _ _ (by show k ≠ w.heap.size; omega), Below.heap_setCell _ _ _ _ (by show k ≠ gl; intro e'; rw [e', HOG.out] at e; cases e)]
    exact hg3'.block k hk fun e' => by rw [HBL.out.2 k e'.symm] at e; cases e
  have hsz5 : w.heap.size ≤ W5.heap.size := by rw [hW5]; simpa [World.setCell] using hg3'.size
  have hst5 : W5.os = w.os ∧ W5.tape = w.tape ∧ W5.output = w.output := by rw [hW5]; exact ⟨hg3'.os, hg3'.tape, hg3'.output⟩
  obtain ⟨o', hd5, hf5, hfree⟩ := HD.out.appLater HF.out HL.out hok5 (W := W5.drew) (W0 := w3) (gl := gl) rfl HSS.out HK2.out HK3.out HBR.out HBL.out.2 hg3'
    (show Row w3 B (v.bs ++ zs) (.slice a' (bs.length + zs.length) c') by rw [← HBS.out]; unfold Row; simpa using HOWN.out) (HLIES.out.imp id fun h => ⟨_, h, by rw [HSZ.out]; omega⟩) (Nat.le_refl _)
    (fun e => by
      rcases HLIES.out with h1 | h1
      · exact HB1.out (by rw [← h1, e])
      · rw [e, HSZ.out] at h1; simp at h1)
    (hg45.andThen (World.grownBy_drew W5 none) (fun j e => by cases e))
  clear hg45 hok5 hg3' d4 f4 e1 fe g4 g5
  obtain ⟨w', hrun5, hd', hg', hs'⟩ := hd5.store hf5 (by unfold maxLen; omega) (by unfold maxLen; omega)
  simp only [mkV] at hrun5
  obtain ⟨c0, c1, c2, c3, c4⟩ := hx5.cells
  dsimp only at c0 c1 c2 c3 c4
  have cg : W5.cell? ⟨g, 0, none⟩ = some (.map (some b)) := hd5.cell
  have HDD := Lib.hid hd'
  have HST : Hid (Step o w o' w') := by
    refine ⟨hg'.os.trans hst5.1, hg'.tape.trans hst5.2.1, hg'.output.trans hst5.2.2, Nat.le_trans hsz5 hg'.size, fun k hk e => ?_, fun k hk e _ => hfree k hk e⟩
    exact (hg'.block k (Nat.lt_of_lt_of_le hk hsz5) fun e' => by cases e'; rw [HD.out.ob] at e; cases e).trans (hblk k hk e)
  clear hd' hg' hfree hs' hd5 hf5 hx5 hW5 hblk hsz5 hst5
  go_still_tail 6, (by kernel_rfl)
  change wpList _ _ _ _ _ W5.drew
  generalize hWd : W5.drew = W6 at hrun5 ⊢
  clear hWd c0 c1 c2 c3 c4 cg
  go_wp2
  go_ret
  exact ⟨rfl, o', ⟨b, _, HDD.out⟩, HST.out⟩

/-- of a file that is not there: as a replacement -/
theorem append_new (g B N : Nat) (o : Tags) (M : Files) (l : Name) (a : Option Addr) (cap : Nat) (zs : List Int) (w : World) (hd : DiskAt w B o g M N) (hp : Reads w a zs) (hna : a = none → cap = 0) (ht : (M.at l).now.there = false)
    (hzl : zs.length ≤ 1048576) (h1 : 1 ≤ l.length) (h2 : l.length ≤ 64) (hN : N < 64) (hn : ∀ l f, M l = some f → f.later.length < 1000000000) (hBw : B ≤ w.heap.size) :
    Calls Try.prog 9 #[.pointer (some ⟨g, 0, none⟩), .string ⟨l.toArray⟩, .slice a zs.length cap] w fun e w' => e = .returned (.int .i64 0) ∧ ∃ o', DiskAt w' B o' g (upd M l (some ((M.at l).chg ⟨true, zs, zs.length⟩))) (cntN M l N) ∧ Step o w o' w' := by
  have hn1 : (M.at l).later.length < 1000000000 := by
    unfold Files.at
    cases h : M l with
    | none => simp [Fil.zero]
    | some f => exact hn l f h
  obtain ⟨b, D, hd⟩ := hd
  have hcell := hd.cell
  obtain ⟨⟨t, sa, sn, sc, wh, la, ln, lc, ls⟩, hf, hrun, _⟩ := hd.look l (by unfold maxLen; omega)
  simp only [mkV] at hrun
  have hb2 : Below w.heap.size w (w.alloc (.cells #[.bool t, .slice sa sn sc, .int .i64 wh, .slice la ln lc, .bool ls] 47)) := (Below.refl _ _).alloc (Nat.le_refl _) _
  have hH : Held (w.alloc (.cells #[.bool t, .slice sa sn sc, .int .i64 wh, .slice la ln lc, .bool ls] 47)) w.heap.size ⟨t, sa, sn, sc, wh, la, ln, lc, ls⟩ := heap_alloc_new _ _
  obtain ⟨P, q, na, cp, j, hnow, c0, c1, c2, hby⟩ := now_any hH (hf.below hb2 (fun k e => (hd.own k e).2)) hn1
  rw [ht] at c0
  have HR := Lib.hid (refusal_ok g b l w hcell h1 h2)
  have HN := Lib.hid hnow
  have HB := Lib.hid hb2
  have HS := Lib.hid (replace_any g B N o M l a zs.length cap zs _ ⟨b, D, hd.below hb2⟩ rfl (hp.below hb2) hna hzl (.inr hN) h1 h2 (by omega) hn (Nat.le_trans hBw hb2.size))
  clear hnow hby hf hd hn hn1 hH hb2 ht hBw hp hna
  go_enter Try.func9, Try.ntmps9
  go_wp2_with fail
  refine HR.out.mono ?_
  rintro e w1 ⟨rfl, rfl⟩
  go_wp2_with fail
  refine HN.out.mono ?_
  rintro e w1 ⟨rfl, rfl⟩
  go_wp2_with fail
  refine HS.out.mono ?_
  rintro e w1 ⟨rfl, o', hd', hst⟩
  have HD := Lib.hid hd'
  have HST := Lib.hid ((Step.of_below o HB.out).trans hst)
  clear hd' hst
  go_wp2
  go_ret
  exact ⟨rfl, o', HD.out, HST.out⟩

/-- bytes behind a file that is there -/
theorem append_there (g B N : Nat) (o : Tags) (M : Files) (l : Name) (a : Option Addr) (cap : Nat) (zs : List Int) (w : World) (hd : DiskAt w B o g M N) (hp : Reads w a zs) (hna : a = none → cap = 0) (ht : (M.at l).now.there = true)
    (hzl : (M.at l).now.bs.length + zs.length ≤ 1048576) (h1 : 1 ≤ l.length) (h2 : l.length ≤ 64) (hN : N < 1000000000) (hn : (M.at l).later.length < 900000000) (hBw : B ≤ w.heap.size) :
    Calls Try.prog 9 #[.pointer (some ⟨g, 0, none⟩), .string ⟨l.toArray⟩, .slice a zs.length cap] w fun e w' => e = .returned (.int .i64 0) ∧ ∃ o', DiskAt w' B o' g (upd M l (some ((M.at l).app zs))) (cntN M l N) ∧ Step o w o' w' := by
  rcases List.eq_nil_or_concat (M.at l).later with hl | ⟨r, v, hl⟩
  · rw [Fil.now_nil hl] at ht hzl
    exact append_sure g B N o M l a cap zs w hd hp hna hl ht hzl h1 h2 hN hBw
  · rw [List.concat_eq_append] at hl
    rw [Fil.now_some hl] at ht hzl
    refine append_later g B N o M l r v a cap zs w hd hp hna hl ht hzl h1 h2 hN hBw ?_
    rw [hl] at hn
    simp at hn
    omega

end Go.Proofs.Ytchmipeehhbniaa
