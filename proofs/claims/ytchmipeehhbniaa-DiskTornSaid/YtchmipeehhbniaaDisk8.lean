/- Names, Loose, Sync, Remove, Replace, by their contracts. -/
import Derived.Test.YtchmipeehhbniaaDisk7
namespace Go.Proofs.Ytchmipeehhbniaa
open Go.RowKit Go.Maps Dsk

theorem enter_names (args : Array Value) (w : World) : (callFunc 25 args).run Try.prog w = .ok (.enter 25 args) w := enters_of Try.func25 (by kernel_rfl) rfl args w
theorem enter_loose (args : Array Value) (w : World) : (callFunc 26 args).run Try.prog w = .ok (.enter 26 args) w := enters_of Try.func26 (by kernel_rfl) rfl args w

/-- the names that are told -/
def Told1 (M : Files) (N : Nat) (q : Fil → Bool) (w : World) (e : Ending) (w' : World) : Prop := ∃ ks a c, e = .returned (.slice a ks.length c) ∧ NamesOf M q ks ∧ StrRow w' w.heap.size ks (.slice a ks.length c) ∧ Below w.heap.size w w' ∧ ks.length ≤ N

theorem names_all (g B N : Nat) (o : Tags) (M : Files) (w : World) (hd : DiskAt w B o g M N) (hN : N < 1000000000) (hn : ∀ l f, M l = some f → f.later.length < 1000000000) : Calls Try.prog 13 #[.pointer (some ⟨g, 0, none⟩)] w (Told1 M N (fun f => f.now.there) w) := by
  have H := Lib.hid (names_any _ enter_names _ asks_names g B N o M w hd hN hn)
  clear hd hn
  go_enter Try.func13, Try.ntmps13
  go_wp2_with fail
  refine H.out.mono ?_
  rintro e w1 ⟨ks, v, rfl, h1, h2, h3, h4⟩
  obtain ⟨a, c, rfl, _⟩ := slice_shape h2
  have HE := Lib.hid h1
  have HR := Lib.hid h2
  clear h1 h2
  go_wp2
  go_ret
  exact ⟨ks, a, c, rfl, HE.out, HR.out, h3, h4⟩

theorem loose_all (g B N : Nat) (o : Tags) (M : Files) (w : World) (hd : DiskAt w B o g M N) (hN : N < 1000000000) (hn : ∀ l f, M l = some f → f.later.length < 1000000000) : Calls Try.prog 14 #[.pointer (some ⟨g, 0, none⟩)] w (Told1 M N (fun f => f.loose) w) := by
  have H := Lib.hid (names_any _ enter_loose _ asks_loose g B N o M w hd hN hn)
  clear hd hn
  go_enter Try.func14, Try.ntmps14
  go_wp2_with fail
  refine H.out.mono ?_
  rintro e w1 ⟨ks, v, rfl, h1, h2, h3, h4⟩
  obtain ⟨a, c, rfl, _⟩ := slice_shape h2
  have HE := Lib.hid h1
  have HR := Lib.hid h2
  clear h1 h2
  go_wp2
  go_ret
  exact ⟨ks, a, c, rfl, HE.out, HR.out, h3, h4⟩

theorem StepX.plain {x : Value} {o o' : Tags} {w w' : World} (h : StepX x o w o' w') (hx : ∀ k, x.ownBlock = some k → o k ≠ none) : Step o w o' w' :=
  ⟨h.os, h.tape, h.output, h.size, h.block, fun k hk e _ => h.free k hk e fun e' => hx k e' e⟩

/-- settle, of a version of the file itself -/
theorem settle_of (g B N : Nat) (o : Tags) (M : Files) (l : Name) (v : Ver) (a : Option Addr) (c : Nat) (w : World) (hd : DiskAt w B o g M N) (hM : (M l).isSome = true) (hs : Row w B v.bs (.slice a v.bs.length c)) (hz : v.bs.length ≤ 1048576) (hr : ∀ x ∈ v.bs, 0 ≤ x ∧ x ≤ 255)
    (hso : ∀ k, (Value.slice a v.bs.length c).ownBlock = some k → ∃ j, o k = some (.file l j)) (hl : l.length ≤ 64) (hN : N < 4611686018427387904) :
    Calls Try.prog 17 #[.pointer (some ⟨g, 0, none⟩), .string ⟨l.toArray⟩, .agg #[.bool v.there, .slice a v.bs.length c, .int .i64 v.whole]] w fun e w' => e = .returned (.tuple #[]) ∧
      ∃ o', DiskAt w' B o' g (upd M l (settled v)) N ∧ Step o w o' w' := by
  obtain ⟨t, zs, wh⟩ := v
  cases t
  · refine (settle_gone g B N o M l _ _ w hd hl).mono ?_
    rintro e w' ⟨rfl, o', h1, h2⟩
    exact ⟨rfl, o', by simpa [settled] using h1, h2⟩
  · refine (settle_there g B N o M l _ zs _ w hd hM hs hz hr (fun k e => .inr (hso k e)) hl hN).mono ?_
    rintro e w' ⟨rfl, o', h1, h2⟩
    exact ⟨rfl, o', by simpa [settled] using h1, h2.plain fun k e => by obtain ⟨j, hj⟩ := hso k e; rw [hj]; simp⟩

set_option maxRecDepth 100000 in
set_option maxHeartbeats 1000000 in
theorem sync_any (g B N : Nat) (o : Tags) (M : Files) (l : Name) (w : World) (hd : DiskAt w B o g M N) (hM : (M l).isSome = true) (h1 : 1 ≤ l.length) (h2 : l.length ≤ 64) (hN : N < 1000000000) (hn : (M.at l).later.length < 1000000000) :
    Calls Try.prog 12 #[.pointer (some ⟨g, 0, none⟩), .string ⟨l.toArray⟩] w fun e w' => e = .returned (.int .i64 0) ∧ ∃ o', DiskAt w' B o' g (upd M l (settled (M.at l).now)) N ∧ Step o w o' w' := by
  obtain ⟨b, D, hd⟩ := hd
  have hcell := hd.cell
  obtain ⟨⟨t, sa, sn, sc, wh, la, ln, lc, ls⟩, hf, _, hrun⟩ := hd.look l (by unfold maxLen; omega)
  rw [hM] at hrun
  simp only [mkV] at hrun
  have hb2 : Below w.heap.size w (w.alloc (.cells #[.bool t, .slice sa sn sc, .int .i64 wh, .slice la ln lc, .bool ls] 47)) := (Below.refl _ _).alloc (Nat.le_refl _) _
  have hH : Held (w.alloc (.cells #[.bool t, .slice sa sn sc, .int .i64 wh, .slice la ln lc, .bool ls] 47)) w.heap.size ⟨t, sa, sn, sc, wh, la, ln, lc, ls⟩ := heap_alloc_new _ _
  obtain ⟨P, q, a, cp, j, hnow, c0, c1, c2, hby⟩ := now_any hH (hf.below hb2 (fun k e => (hd.own k e).2)) hn
  have hok := Fil.now_ok hf.ok
  obtain ⟨v, hv⟩ : ∃ v, v = (M.at l).now := ⟨_, rfl⟩
  rw [← hv] at c0 c1 c2 hby hok ⊢
  have HR := Lib.hid (refusal_ok g b l w hcell h1 h2)
  have HN := Lib.hid hnow
  have HS := Lib.hid (settle_of g B N o M l v a cp _ ⟨b, D, hd.below hb2⟩ hM hby.1 hok.2.1 hok.2.2 (fun k e => ⟨j, hby.2 k e⟩) h2 (by omega))
  have HB := Lib.hid hb2
  clear hnow hby hok hv hf hd hM hn hH hb2
  go_enter Try.func12, Try.ntmps12
  go_wp2_with fail
  refine HR.out.mono ?_
  rintro e w1 ⟨rfl, rfl⟩
  go_wp2_with fail
  refine HN.out.mono ?_
  rintro e w1 ⟨rfl, rfl⟩
  go_wp2_with fail
  refine HS.out.mono ?_
  rintro e w1 ⟨rfl, o', hd', hst⟩
  have HD := Lib.hid hd'
  have HST := Lib.hid ((Step.of_below o HB.out).trans hst)
  clear hd' hst
  go_wp2
  go_ret
  exact ⟨rfl, o', HD.out, HST.out⟩

set_option maxRecDepth 100000 in
set_option maxHeartbeats 1000000 in
theorem remove_any (g B N : Nat) (o : Tags) (M : Files) (l : Name) (w : World) (hd : DiskAt w B o g M N) (ht : (M.at l).now.there = true) (h1 : 1 ≤ l.length) (h2 : l.length ≤ 64) (hN : N < 1000000000) (hn : (M.at l).later.length < 1000000000) (hBw : B ≤ w.heap.size) :
    Calls Try.prog 11 #[.pointer (some ⟨g, 0, none⟩), .string ⟨l.toArray⟩] w fun e w' => e = .returned (.int .i64 0) ∧ ∃ o', DiskAt w' B o' g (upd M l (some ((M.at l).chg Ver.zero))) (cntN M l N) ∧ Step o w o' w' := by
  obtain ⟨b, D, hd⟩ := hd
  have hcell := hd.cell
  obtain ⟨⟨t, sa, sn, sc, wh, la, ln, lc, ls⟩, hf, hrun, _⟩ := hd.look l (by unfold maxLen; omega)
  simp only [mkV] at hrun
  have hb2 : Below w.heap.size w (w.alloc (.cells #[.bool t, .slice sa sn sc, .int .i64 wh, .slice la ln lc, .bool ls] 47)) := (Below.refl _ _).alloc (Nat.le_refl _) _
  have hH : Held (w.alloc (.cells #[.bool t, .slice sa sn sc, .int .i64 wh, .slice la ln lc, .bool ls] 47)) w.heap.size ⟨t, sa, sn, sc, wh, la, ln, lc, ls⟩ := heap_alloc_new _ _
  obtain ⟨P, q, a, cp, j, hnow, c0, c1, c2, hby⟩ := now_any hH (hf.below hb2 (fun k e => (hd.own k e).2)) hn
  rw [ht] at c0
  have HR := Lib.hid (refusal_ok g b l w hcell h1 h2)
  have HN := Lib.hid hnow
  have HS := Lib.hid (change_any g B N o M l false none 0 0 0 [] _ ⟨b, D, hd.below hb2⟩ (World.ownsRow_nil _ _ _ _) Ver.zero_ok (fun k e => by cases e) h2 (by omega) hn (Nat.le_trans hBw hb2.size))
  have HB := Lib.hid hb2
  clear hnow hby hf hd hn hH hb2 ht hBw
  go_enter Try.func11, Try.ntmps11
  go_wp2_with fail
  refine HR.out.mono ?_
  rintro e w1 ⟨rfl, rfl⟩
  go_wp2_with fail
  refine HN.out.mono ?_
  rintro e w1 ⟨rfl, rfl⟩
  go_wp2_with fail
  refine HS.out.mono ?_
  rintro e w1 ⟨rfl, o', hd', hst⟩
  have HD := Lib.hid hd'
  have HST := Lib.hid ((Step.of_below o HB.out).trans hst)
  clear hd' hst
  go_wp2
  go_ret
  exact ⟨rfl, o', HD.out, HST.out⟩

end Go.Proofs.Ytchmipeehhbniaa
