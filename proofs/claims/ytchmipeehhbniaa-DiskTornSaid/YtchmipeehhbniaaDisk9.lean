/- Replace, Append, by their contracts. -/
import Derived.Test.YtchmipeehhbniaaDisk8
namespace Go.Proofs.Ytchmipeehhbniaa
open Go.RowKit Go.Maps Dsk

set_option maxRecDepth 100000 in
set_option maxHeartbeats 2000000 in
theorem replace_any (g B N : Nat) (o : Tags) (M : Files) (l : Name) (a : Option Addr) (len cap : Nat) (zs : List Int) (w : World) (hd : DiskAt w B o g M N) (hz : len = zs.length) (hp : Reads w a zs) (hna : a = none → cap = 0) (hzl : zs.length ≤ 1048576)
    (hroom : (M.at l).now.there = true ∨ N < 64) (h1 : 1 ≤ l.length) (h2 : l.length ≤ 64) (hN : N < 1000000000) (hn : ∀ l f, M l = some f → f.later.length < 1000000000) (hBw : B ≤ w.heap.size) :
    Calls Try.prog 10 #[.pointer (some ⟨g, 0, none⟩), .string ⟨l.toArray⟩, .slice a len cap] w fun e w' => e = .returned (.int .i64 0) ∧ ∃ o', DiskAt w' B o' g (upd M l (some ((M.at l).chg ⟨true, zs, zs.length⟩))) (cntN M l N) ∧ Step o w o' w' := by
  subst hz
  have hn1 : (M.at l).later.length < 1000000000 := by
    unfold Files.at
    cases h : M l with
    | none => simp [Fil.zero]
    | some f => exact hn l f h
  have HD0 := Lib.hid hd
  obtain ⟨b, D, hd⟩ := hd
  have hcell := hd.cell
  obtain ⟨⟨t, sa, sn, sc, wh, la, ln, lc, ls⟩, hf, hrun, _⟩ := hd.look l (by unfold maxLen; omega)
  simp only [mkV] at hrun
  have hb2 : Below w.heap.size w (w.alloc (.cells #[.bool t, .slice sa sn sc, .int .i64 wh, .slice la ln lc, .bool ls] 47)) := (Below.refl _ _).alloc (Nat.le_refl _) _
  have hH : Held (w.alloc (.cells #[.bool t, .slice sa sn sc, .int .i64 wh, .slice la ln lc, .bool ls] 47)) w.heap.size ⟨t, sa, sn, sc, wh, la, ln, lc, ls⟩ := heap_alloc_new _ _
  obtain ⟨P, q, na, cp, j, hnow, c0, c1, c2, hby⟩ := now_any hH (hf.below hb2 (fun k e => (hd.own k e).2)) hn1
  have HR := Lib.hid (refusal_ok g b l w hcell h1 h2)
  have HN := Lib.hid hnow
  have HB := Lib.hid hb2
  have HOWN := Lib.hid hd.own
  have HF := Lib.hid (names_all g B N o M _ ⟨b, D, hd.below hb2⟩ hN hn)
  have HC := Lib.hid (fun W (hw : Below w.heap.size w W) => clone_reads a zs.length cap zs W rfl (hp.below hw) (by omega) hna)
  have HS := Lib.hid (fun (W : World) (hw : Below w.heap.size w W) a' c' (hr : Row W w.heap.size zs (.slice a' zs.length c')) => change_any g B N o M l true a' zs.length c' zs.length zs W ⟨b, D, hd.below hw⟩
    (hr.less hBw) ⟨Nat.le_refl _, hzl, hp.hr⟩ (fun k e => by
      have hk : w.heap.size ≤ k := (hr.own k e).1
      cases ho : o k with
      | none => rfl
      | some t' => have := (hd.own k (by rw [ho]; simp)).2; omega) h2 (by omega) hn1 (Nat.le_trans hBw hw.size))
  have hzd : decide (1048576 < (zs.length : Int)) = false := by simp; omega
  clear hnow hf hd hH hb2 hby hp hna hzl hBw hn hn1
  go_enter Try.func10, Try.ntmps10
  go_wp2_with fail
  refine HR.out.mono ?_
  rintro e w1 ⟨rfl, rfl⟩
  go_wp2_with fail
  refine HN.out.mono ?_
  rintro e w1 ⟨rfl, rfl⟩
  by_cases ht : (M.at l).now.there = true
  · rw [ht] at c0
    go_wp2_with fail
    refine (HC.out _ HB.out).mono ?_
    rintro e w3 ⟨v, rfl, hr, hb3⟩
    have hb := HB.out.trans (hb3.mono HB.out.size)
    replace hr := hr.less HB.out.size
    obtain ⟨a', c', rfl⟩ := hr.shape
    have HK := Lib.hid (HS.out w3 hb a' c' hr)
    have HB3 := Lib.hid hb
    have HRO := Lib.hid (fun k e => (hr.own k e).1)
    clear hr hb3 hb
    go_wp2_with fail
    refine HK.out.mono ?_
    rintro e w5 ⟨rfl, o', hd', hst⟩
    have HD := Lib.hid hd'
    have HST := Lib.hid (hst.behind HB3.out HRO.out)
    clear hd' hst
    go_wp2
    go_ret
    exact ⟨rfl, o', HD.out, HST.out⟩
  · have ht' : (M.at l).now.there = false := by simpa using ht
    rw [ht'] at c0
    have hN64 : N < 64 := hroom.elim (fun h => absurd h ht) id
    go_wp2_with fail
    refine HF.out.mono ?_
    rintro e w4 ⟨ks, ka, kc, rfl, hks, _, hb4, hkl⟩
    have hd64 : decide (64 ≤ (ks.length : Int)) = false := by simp; omega
    have HB4 := Lib.hid (HB.out.trans (hb4.mono HB.out.size))
    clear hks hb4 hkl hN64
    go_wp2_with fail
    refine (HC.out _ HB4.out).mono ?_
    rintro e w3 ⟨v, rfl, hr, hb3⟩
    have hb := HB4.out.trans (hb3.mono HB4.out.size)
    replace hr := hr.less HB4.out.size
    obtain ⟨a', c', rfl⟩ := hr.shape
    have HK := Lib.hid (HS.out w3 hb a' c' hr)
    have HB3 := Lib.hid hb
    have HRO := Lib.hid (fun k e => (hr.own k e).1)
    clear hr hb3 hb
    go_wp2_with fail
    refine HK.out.mono ?_
    rintro e w5 ⟨rfl, o', hd', hst⟩
    have HD := Lib.hid hd'
    have HST := Lib.hid (hst.behind HB3.out HRO.out)
    clear hd' hst
    go_wp2
    go_ret
    exact ⟨rfl, o', HD.out, HST.out⟩

end Go.Proofs.Ytchmipeehhbniaa
