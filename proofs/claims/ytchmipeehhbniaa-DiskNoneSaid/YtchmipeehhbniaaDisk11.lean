/- Append, by its contract: the walks. -/
import Derived.Test.YtchmipeehhbniaaDisk10
namespace Go.Proofs.Ytchmipeehhbniaa
open Go.RowKit Go.Maps Dsk

theorem Reads.bytes {w : World} {a : Option Addr} {zs : List Int} (h : Reads w a zs) : ∀ ad, a = some ad → ∀ j u, (zs.map (Value.int .u8))[j]? = some u → w.cell? (ad.add j) = some u := fun ad e => by
  subst e
  exact h.news
theorem Reads.none_len {w : World} {a : Option Addr} {zs : List Int} (h : Reads w a zs) (ha : a = none) : zs.length = 0 := by
  cases zs with
  | nil => rfl
  | cons z zs =>
    obtain ⟨x, hx, _⟩ := h.cell 0 (by simp)
    rw [ha] at hx; cases hx

set_option maxRecDepth 100000 in
set_option maxHeartbeats 2000000 in
theorem append_sure (g B N : Nat) (o : Tags) (M : Files) (l : Name) (a : Option Addr) (cap : Nat) (zs : List Int) (w : World) (hd : DiskAt w B o g M N) (hp : Reads w a zs) (hna : a = none → cap = 0) (hl : (M.at l).later = []) (ht : (M.at l).sure.there = true)
    (hzl : (M.at l).sure.bs.length + zs.length ≤ 1048576) (h1 : 1 ≤ l.length) (h2 : l.length ≤ 64) (hN : N < 1000000000) (hBw : B ≤ w.heap.size) :
    Calls Try.prog 9 #[.pointer (some ⟨g, 0, none⟩), .string ⟨l.toArray⟩, .slice a zs.length cap] w fun e w' => e = .returned (.int .i64 0) ∧ ∃ o', DiskAt w' B o' g (upd M l (some ((M.at l).app zs))) (cntN M l N) ∧ Step o w o' w' := by
  obtain ⟨b, D, hd⟩ := hd
  obtain ⟨i0, hi, hz0, hz1, hz2⟩ := info_parts info5
  have hcell := hd.cell
  obtain ⟨⟨t, sa, sn, sc, wh, la, ln, lc, ls⟩, hf, hrun, _⟩ := hd.look l (by unfold maxLen; omega)
  simp only [mkV] at hrun
  have hb2 : Below w.heap.size w (w.alloc (.cells #[.bool t, .slice sa sn sc, .int .i64 wh, .slice la ln lc, .bool ls] 47)) := (Below.refl _ _).alloc (Nat.le_refl _) _
  have hH : Held (w.alloc (.cells #[.bool t, .slice sa sn sc, .int .i64 wh, .slice la ln lc, .bool ls] 47)) w.heap.size ⟨t, sa, sn, sc, wh, la, ln, lc, ls⟩ := heap_alloc_new _ _
  have htt : t = true := hf.t.trans ht
  have hsn : sn = (M.at l).sure.bs.length := hf.sn
  have hln : ln = 0 := by have := hf.ln; rw [hl] at this; exact this
  subst htt hln
  obtain ⟨bs, hbs⟩ : ∃ bs, bs = (M.at l).sure.bs := ⟨_, rfl⟩
  rw [← hbs] at hsn hzl
  subst hsn
  have hrow : Row (w.alloc (.cells #[.bool true, .slice sa bs.length sc, .int .i64 wh, .slice la 0 lc, .bool ls] 47)) B bs (.slice sa bs.length sc) := by
    rw [hbs]
    have := hf.sb.1.below hb2
    rwa [FV.sb, hbs] at this
  have HR := Lib.hid (refusal_ok g b l w hcell h1 h2)
  have HNW := Lib.hid (now_sure w.heap.size la lc _ hH.cells.2.2.2.1)
  have HB := Lib.hid hb2
  have HH := Lib.hid hH
  have hpb := (hp.below hb2).bytes
  have hpn : a = none → zs.length = 0 ∧ cap = 0 := fun e => ⟨hp.none_len e, hna e⟩
  have HF := Lib.hid hf
  have HD := Lib.hid hd
  have HL := Lib.hid hl
  have HBS := Lib.hid hbs
  have HPR := Lib.hid hp.hr
  have hzd : decide (1048576 - (bs.length : Int) < (zs.length : Int)) = false := by simp; omega
  obtain ⟨c0, c1, c2, c3, c4⟩ := hH.cells
  dsimp only at c0 c1 c2 c3 c4
  clear hf hd hl hbs hp hna hH hb2 ht
  go_enter Try.func9, Try.ntmps9
  go_wp2_with fail
  refine HR.out.mono ?_
  rintro e w1 ⟨rfl, rfl⟩
  go_wp2_with fail
  refine HNW.out.mono ?_
  rintro e w1 ⟨rfl, rfl⟩
  generalize hw2 : (w.alloc (.cells #[.bool true, .slice sa bs.length sc, .int .i64 wh, .slice la 0 lc, .bool ls] 47)) = w2 at *
  have HW2 := Lib.hid hw2
  have hsz : w2.heap.size = w.heap.size + 1 := by rw [← hw2]; simp
  have HSZ := Lib.hid hsz
  clear hw2 hsz hrun hcell
  go_wp2_with (at_builtin; go_loud (refine wpList_append_lies _ rfl _ _ 22 rfl B 5 i0 (.int .u8 0) 1 1 Try.underlying22 hi hz0 hz1 hz2 rfl (by decide) _ _ _ rfl hrow a zs.length cap (zs.map (Value.int .u8)) rfl (by simp) hpn hpb (ints_oneCell .u8 _) (by unfold maxLen; omega) (by omega) (by have := HB.out.size; omega) ?_))
  intro v' w3 hown hg3 hlies
  obtain ⟨a', c', rfl, _⟩ := slice_shape hown
  have hb1 : (some w.heap.size : Option Nat) ≠ (Value.slice sa bs.length sc).ownBlock := fun e => by
    have h3 := HF.out.sb.2 w.heap.size e.symm
    have := (HD.out.own w.heap.size (by rw [h3]; simp)).2
    omega
  have hx3 : Held w3 w.heap.size ⟨true, sa, bs.length, sc, wh, la, 0, lc, ls⟩ := (hg3.block _ (by rw [HSZ.out]; omega) hb1).trans HH.out
  obtain ⟨d0, d1, d2, d3, d4⟩ := hx3.cells
  dsimp only at d0 d1 d2 d3 d4
  have f1 := frozen_row (i := 1) hx3
  have f4 := frozen_row (i := 4) hx3
  have HX3 := Lib.hid hx3
  have HOWN := Lib.hid hown
  have HG3 := Lib.hid hg3
  have HLIES := Lib.hid hlies
  have HB1 := Lib.hid hb1
  clear hx3 hown hg3 hlies hb1 hrow hpb hpn c0 c1 c2 c3 c4
  go_wp2
  obtain ⟨W5, hW5⟩ : ∃ W5, W5 = ((w3.setCell ⟨w.heap.size, 1, none⟩ (.slice a' (bs.length + zs.length) c')).setCell ⟨w.heap.size, 4, none⟩ (.bool true)) := ⟨_, rfl⟩
  rw [← hW5]
  have hx5 : Held W5 w.heap.size ⟨true, a', bs.length + zs.length, c', wh, la, 0, lc, true⟩ := by
    rw [hW5]
    exact cells_set (cells_set HX3.out 1 _) 4 _
  have hg35 : w3.grownBy W5 (some w.heap.size) := by
    rw [hW5]
    exact (World.grownBy_setCell _ _ _ _).andThen (World.grownBy_setCell _ _ _ _) (fun j e => .inr e)
  have hgw : w.grownBy W5 (Value.slice sa bs.length sc).ownBlock :=
    ((World.grownBy_below HB.out _).andThen HG3.out (fun j e => .inr e)).andThen hg35 (fun j e => by cases e; exact .inl (Nat.le_refl _))
  have hrow5 : W5.ownsRow B 5 1 (.slice a' (bs.length + zs.length) c') (bs.length + zs.length) (bs.map (Value.int .u8) ++ zs.map (Value.int .u8)) :=
    HOWN.out.kept hg35 (.inr fun e => by
      rcases HLIES.out with h1 | h1
      · exact HB1.out (by rw [← h1, e])
      · rw [e, HSZ.out] at h1; simp at h1)
  have HTAG := Lib.hid (fun k (e : (Value.slice sa bs.length sc).ownBlock = some k) => HF.out.sb.2 k e)
  have hok5 : ((M.at l).sure.app zs).ok := Ver.app_ok HF.out.ok.1 (by rw [← HBS.out]; exact hzl) HPR.out
  obtain ⟨o', hd5, hf5, hfree⟩ := HD.out.appSure HF.out HL.out hok5 (W := W5.drew) (hgw.andThen (World.grownBy_drew W5 none) (fun j e => by cases e))
    (show Row W5.drew B ((M.at l).sure.bs ++ zs) (.slice a' (bs.length + zs.length) c') by rw [← HBS.out]; unfold Row; simpa using ownsRow_keep (w' := W5.drew) hrow5 (fun k e => rfl)) (HLIES.out.imp id fun h => ⟨_, h, by rw [HSZ.out]; omega⟩)
  clear hrow5 hg35 hok5
  obtain ⟨w', hrun5, hd', hg', hs'⟩ := hd5.store hf5 (by unfold maxLen; omega) (by unfold maxLen; omega)
  simp only [mkV] at hrun5
  obtain ⟨c0, c1, c2, c3, c4⟩ := hx5.cells
  dsimp only at c0 c1 c2 c3 c4
  have cg : W5.cell? ⟨g, 0, none⟩ = some (.map (some b)) := hd5.cell
  have HDD := Lib.hid hd'
  have HG' := Lib.hid hg'
  have HGW := Lib.hid (hgw.andThen (World.grownBy_drew W5 none) (fun j e => by cases e))
  have HFR := Lib.hid hfree
  clear hd' hg' hgw hfree hs' hd5 hf5 hx5 hW5
  go_still_tail 6, (by kernel_rfl)
  change wpList _ _ _ _ _ W5.drew
  generalize hWd : W5.drew = W6 at hrun5 HG' HGW ⊢
  clear hWd c0 c1 c2 c3 c4 cg
  go_wp2
  go_ret
  exact ⟨rfl, o', ⟨b, _, HDD.out⟩, .turned HGW.out (fun k e => by rw [HTAG.out k e]; simp) HG'.out HD.out.ob (fun k hk e _ => HFR.out k hk e)⟩

end Go.Proofs.Ytchmipeehhbniaa
