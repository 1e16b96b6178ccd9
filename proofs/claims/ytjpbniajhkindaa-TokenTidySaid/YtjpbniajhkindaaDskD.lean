/- Replace, Append, by their contracts. Append, by its contract. Append, by its contract: the walks. Append, by its contract: behind a later version; of a file that is not there. Crash, by its contract. -/
import Derived.Test.YtjpbniajhkindaaDskC
namespace Go.Proofs.Ytjpbniajhkindaa
open Go.RowKit Go.Maps Dsk

set_option maxRecDepth 100000 in
set_option maxHeartbeats 2000000 in
theorem replace_any (g B N : Nat) (o : Tags) (M : Files) (l : Name) (a : Option Addr) (len cap : Nat) (zs : List Int) (w : World) (hd : DiskAt w B o g M N) (hz : len = zs.length) (hp : Reads w a zs) (hna : a = none → cap = 0) (hzl : zs.length ≤ 1048576)
    (hroom : (M.at l).now.there = true ∨ N < 64) (h1 : 1 ≤ l.length) (h2 : l.length ≤ 64) (hN : N < 1000000000) (hn : ∀ l f, M l = some f → f.later.length < 1000000000) (hBw : B ≤ w.heap.size) :
    Calls Try.prog 32 #[.pointer (some ⟨g, 0, none⟩), .string ⟨l.toArray⟩, .slice a len cap] w fun e w' => e = .returned (.int .i64 0) ∧ ∃ o', DiskAt w' B o' g (upd M l (some ((M.at l).chg ⟨true, zs, zs.length⟩))) (cntN M l N) ∧ Step o w o' w' := by
  subst hz
  have hn1 : (M.at l).later.length < 1000000000 := by
    unfold Files.at
    cases h : M l with
    | none => simp [Fil.zero]
    | some f => exact hn l f h
  have HD0 := Lib.hid hd
  obtain ⟨b, D, hd⟩ := hd
  have hcell := hd.cell
  obtain ⟨⟨t, sa, sn, sc, wh, la, ln, lc, ls⟩, hf, hrun, _⟩ := hd.look l (by unfold maxLen; omega)
  simp only [mkV] at hrun
  have hb2 : Below w.heap.size w (w.alloc (.cells #[.bool t, .slice sa sn sc, .int .i64 wh, .slice la ln lc, .bool ls] 64)) := (Below.refl _ _).alloc (Nat.le_refl _) _
  have hH : Held (w.alloc (.cells #[.bool t, .slice sa sn sc, .int .i64 wh, .slice la ln lc, .bool ls] 64)) w.heap.size ⟨t, sa, sn, sc, wh, la, ln, lc, ls⟩ := heap_alloc_new _ _
  obtain ⟨P, q, na, cp, j, hnow, c0, c1, c2, hby⟩ := now_any hH (hf.below hb2 (fun k e => (hd.own k e).2)) hn1
  have HR := Lib.hid (refusal_ok g b l w hcell h1 h2)
  have HN := Lib.hid hnow
  have HB := Lib.hid hb2
  have HOWN := Lib.hid hd.own
  have HF := Lib.hid (names_all g B N o M _ ⟨b, D, hd.below hb2⟩ hN hn)
  have HC := Lib.hid (fun W (hw : Below w.heap.size w W) => clone_reads a zs.length cap zs W rfl (hp.below hw) (by omega) hna)
  have HS := Lib.hid (fun (W : World) (hw : Below w.heap.size w W) a' c' (hr : Row W w.heap.size zs (.slice a' zs.length c')) => change_any g B N o M l true a' zs.length c' zs.length zs W ⟨b, D, hd.below hw⟩
    (hr.less hBw) ⟨Nat.le_refl _, hzl, hp.hr⟩ (fun k e => by
      have hk : w.heap.size ≤ k := (hr.own k e).1
      cases ho : o k with
      | none => rfl
      | some t' => have := (hd.own k (by rw [ho]; simp)).2; omega) h2 (by omega) hn1 (Nat.le_trans hBw hw.size))
  have hzd : decide (1048576 < (zs.length : Int)) = false := by simp; omega
  clear hnow hf hd hH hb2 hby hp hna hzl hBw hn hn1
  go_enter Try.func32, Try.ntmps32
  go_wp2_with fail
  refine HR.out.mono ?_
  rintro e w1 ⟨rfl, rfl⟩
  go_wp2_with fail
  refine HN.out.mono ?_
  rintro e w1 ⟨rfl, rfl⟩
  by_cases ht : (M.at l).now.there = true
  · rw [ht] at c0
    go_wp2_with fail
    refine (HC.out _ HB.out).mono ?_
    rintro e w3 ⟨v, rfl, hr, hb3⟩
    have hb := HB.out.trans (hb3.mono HB.out.size)
    replace hr := hr.less HB.out.size
    obtain ⟨a', c', rfl⟩ := hr.shape
    have HK := Lib.hid (HS.out w3 hb a' c' hr)
    have HB3 := Lib.hid hb
    have HRO := Lib.hid (fun k e => (hr.own k e).1)
    clear hr hb3 hb
    go_wp2_with fail
    refine HK.out.mono ?_
    rintro e w5 ⟨rfl, o', hd', hst⟩
    have HD := Lib.hid hd'
    have HST := Lib.hid (hst.behind HB3.out HRO.out)
    clear hd' hst
    go_wp2
    go_ret
    exact ⟨rfl, o', HD.out, HST.out⟩
  · have ht' : (M.at l).now.there = false := by simpa using ht
    rw [ht'] at c0
    have hN64 : N < 64 := hroom.elim (fun h => absurd h ht) id
    go_wp2_with fail
    refine HF.out.mono ?_
    rintro e w4 ⟨ks, ka, kc, rfl, hks, _, hb4, hkl⟩
    have hd64 : decide (64 ≤ (ks.length : Int)) = false := by simp; omega
    have HB4 := Lib.hid (HB.out.trans (hb4.mono HB.out.size))
    clear hks hb4 hkl hN64
    go_wp2_with fail
    refine (HC.out _ HB4.out).mono ?_
    rintro e w3 ⟨v, rfl, hr, hb3⟩
    have hb := HB4.out.trans (hb3.mono HB4.out.size)
    replace hr := hr.less HB4.out.size
    obtain ⟨a', c', rfl⟩ := hr.shape
    have HK := Lib.hid (HS.out w3 hb a' c' hr)
    have HB3 := Lib.hid hb
    have HRO := Lib.hid (fun k e => (hr.own k e).1)
    clear hr hb3 hb
    go_wp2_with fail
    refine HK.out.mono ?_
    rintro e w5 ⟨rfl, o', hd', hst⟩
    have HD := Lib.hid hd'
    have HST := Lib.hid (hst.behind HB3.out HRO.out)
    clear hd' hst
    go_wp2
    go_ret
    exact ⟨rfl, o', HD.out, HST.out⟩

end Go.Proofs.Ytjpbniajhkindaa

namespace Go.Proofs.Ytjpbniajhkindaa
open Go.RowKit Go.Maps Dsk

section
variable {w w' W : World} {B : Nat} {o o' : Tags} {g b N : Nat} {D : DataW Value} {M : Files} {l : Name}

/-- a slice that has grown: in its own block, or in a new one -/
theorem own_old {x y : Value} {t : Tag} (hx : ∀ k, x.ownBlock = some k → o k = some t) (hl : y.ownBlock = x.ownBlock ∨ ∃ k, y.ownBlock = some k ∧ w.heap.size ≤ k) (ho : ∀ k, o k ≠ none → B ≤ k ∧ k < w.heap.size) : ∀ k t', o k = some t' → o.own y t k = some t' := fun k t' e => by
  unfold Tags.own
  by_cases e1 : y.ownBlock = some k
  · rw [if_pos e1]
    rcases hl with h1 | ⟨j, h1, h2⟩
    · rw [h1] at e1
      rw [← hx k e1, e]
    · rw [h1] at e1
      cases e1
      have := (ho k (by rw [e]; simp)).2
      omega
  · rw [if_neg e1]; exact e

theorem own_free {x y : Value} {t : Tag} (hx : ∀ k, x.ownBlock = some k → o k = some t) (hl : y.ownBlock = x.ownBlock ∨ ∃ k, y.ownBlock = some k ∧ w.heap.size ≤ k) : ∀ k, k < w.heap.size → o k = none → o.own y t k = none := fun k hk e => by
  unfold Tags.own
  by_cases e1 : y.ownBlock = some k
  · rcases hl with h1 | ⟨j, h1, h2⟩
    · rw [h1] at e1
      rw [hx k e1] at e; cases e
    · rw [h1] at e1
      cases e1
      omega
  · rw [if_neg e1]; exact e

theorem Ver.app_ok {v : Ver} {zs : List Int} (h : v.ok) (hz : v.bs.length + zs.length ≤ 1048576) (hr : ∀ x ∈ zs, 0 ≤ x ∧ x ≤ 255) : (v.app zs).ok :=
  ⟨by have := h.1; simp [Ver.app]; omega, by simp [Ver.app]; omega, fun x hx => by
    rcases List.mem_append.1 (show x ∈ v.bs ++ zs from hx) with hx | hx
    · exact h.2.2 x hx
    · exact hr x hx⟩

/-- bytes behind what is sure -/
theorem DiskIn.appSure (h : DiskIn w B o g b D M N none) {c : FV} {f : Fil} (hf : FileAt w B o l c f) (hl : f.later = []) {zs : List Int} (hv : (f.sure.app zs).ok) {a' : Option Addr} {n' c' : Nat}
    (hg : w.grownBy W c.sb.ownBlock) (hrow : Row W B (f.sure.bs ++ zs) (.slice a' n' c')) (hlies : (Value.slice a' n' c').ownBlock = c.sb.ownBlock ∨ ∃ k, (Value.slice a' n' c').ownBlock = some k ∧ w.heap.size ≤ k) :
    ∃ o', DiskIn W B o' g b D M N (some l) ∧ FileAt W B o' l { c with sa := a', sn := n', sc := c', ls := true } (f.app zs) ∧ ∀ k, k < w.heap.size → o k = none → o' k = none := by
  have hold := own_old (w := w) hf.sb.2 hlies h.own
  have hsame : ∀ k t', o k = some t' → t' ≠ .file l 0 → W.heap[k]? = w.heap[k]? := fun k t' e hne =>
    hg.block k (h.own k (by rw [e]; simp)).2 fun e' => by
      rw [hf.sb.2 k e'.symm] at e
      cases e
      exact hne rfl
  refine ⟨o.own (.slice a' n' c') (.file l 0), (h.but l).keep (fun _ e => e) (h.but l).here (fun k t' e ht => hsame k t' e fun e' => ht l 0 e' rfl) (fun k t' e _ => hold k t' e) (fun k e => ?_), ?_, own_free hf.sb.2 hlies⟩
  · unfold Tags.own at e
    by_cases e1 : (Value.slice a' n' c').ownBlock = some k
    · exact hrow.own k e1
    · rw [if_neg e1] at e
      exact ⟨(h.own k e).1, Nat.lt_of_lt_of_le (h.own k e).2 hg.size⟩
  · rw [Fil.app_nil hl]
    obtain ⟨ss, k1, k2, k3, _⟩ := hf.lt
    rw [hl] at k1 k2
    exact ⟨hf.t, hf.wh, rfl, ⟨hrow, fun k e => by simp [Tags.own, show (Value.slice a' n' c').ownBlock = some k from e]⟩, ⟨hv, fun v hv => by cases hv⟩, ss, k1, ownsRow_keep k2 fun k e => hsame k _ (k3 k e) (by simp), fun k e => hold k _ (k3 k e), fun i hi => absurd hi (by simp)⟩

theorem ownsRow_set {e : TypeId} {size n : Nat} {xs : List Value} {gl : Nat} {cp : Nat} (h : w.ownsRow B e size (.slice (some ⟨gl, 0, none⟩) n cp) n xs) (i : Nat) (u : Value) : (w.setCell ⟨gl, i, none⟩ u).ownsRow B e size (.slice (some ⟨gl, 0, none⟩) n cp) n (xs.set i u) := by
  refine ⟨by simp [h.1], ?_⟩
  rcases h.2 with ⟨hv, _⟩ | ⟨g', cap, cur, hv, hB, hg, h1, h2, h3, h4⟩
  · cases hv
  · simp only [Value.slice.injEq, Option.some.injEq, Addr.mk.injEq] at hv
    obtain ⟨⟨rfl, _⟩, _, rfl⟩ := hv
    refine .inr ⟨gl, cp, cur.setIfInBounds i u, rfl, hB, cells_set hg i u, h1, h2, by simpa using h3, ?_⟩
    rw [Array.toList_setIfInBounds, List.take_set, h4]

/-- bytes behind the last version's -/
theorem DiskIn.appLater (h : DiskIn w B o g b D M N none) {c : FV} {f : Fil} (hf : FileAt w B o l c f) {r : List Ver} {v : Ver} (hl : f.later = r ++ [v]) {zs : List Int} (hv : (v.app zs).ok) {s : Value} {gl : Nat} {ss0 : List Value} (hla : c.lt = .slice (some ⟨gl, 0, none⟩) (r.length + 1) c.lc)
    (hss : ss0.length = r.length) (hrl : w.ownsRow B 61 3 c.lt (r.length + 1) (verCells r ss0 ++ [.bool v.there, s, .int .i64 v.whole])) (hlo : ∀ k, c.lt.ownBlock = some k → o k = some (.file l 1)) (hbs : ∀ i (h : i < r.length), BytesAt w B o (.file l (i + 2)) r[i].bs (ss0.getD i undef)) (hso : ∀ k, s.ownBlock = some k → o k = some (.file l (r.length + 2)))
    {W0 : World} (hg : w.grownBy W0 s.ownBlock) {a' : Option Addr} {n' c' : Nat} (hrow : Row W0 B (v.bs ++ zs) (.slice a' n' c')) (hlies : (Value.slice a' n' c').ownBlock = s.ownBlock ∨ ∃ k, (Value.slice a' n' c').ownBlock = some k ∧ w.heap.size ≤ k)
    {fb : Nat} (hfb : w.heap.size ≤ fb) (hnf : (Value.slice a' n' c').ownBlock ≠ some fb) (hW : (W0.setCell ⟨gl, r.length * 3 + 1, none⟩ (.slice a' n' c')).grownBy W (some fb)) :
    ∃ o', DiskIn W B o' g b D M N (some l) ∧ FileAt W B o' l { c with ls := true } (f.app zs) ∧ ∀ k, k < w.heap.size → o k = none → o' k = none := by
  have hgl : o gl = some (.file l 1) := hlo gl (by rw [hla]; rfl)
  have hgs := (h.own gl (by rw [hgl]; simp)).2
  have hold := own_old (w := w) hso hlies h.own
  have h0 : ∀ k t', o k = some t' → t' ≠ .file l (r.length + 2) → W0.heap[k]? = w.heap[k]? := fun k t' e hne =>
    hg.block k (h.own k (by rw [e]; simp)).2 fun e' => by
      rw [hso k e'.symm] at e
      cases e
      exact hne rfl
  have hz0 : W0.heap.size ≤ W.heap.size := by have := hW.size; simpa [World.setCell] using this
  have h1 : ∀ k, k < W0.heap.size → k ≠ gl → k ≠ fb → W.heap[k]? = W0.heap[k]? := fun k hk hne hnb => (hW.block k (by simpa [World.setCell] using hk) (by simpa using hnb)).trans (Below.heap_setCell _ _ _ _ hne)
  have hsame : ∀ k t', o k = some t' → t' ≠ .file l (r.length + 2) → t' ≠ .file l 1 → W.heap[k]? = w.heap[k]? := fun k t' e hne hne1 =>
    (h1 k (Nat.lt_of_lt_of_le (h.own k (by rw [e]; simp)).2 hg.size) (fun e' => by subst e'; rw [hgl] at e; cases e; exact hne1 rfl) (by have := (h.own k (by rw [e]; simp)).2; omega)).trans (h0 k t' e hne)
  have hrow2 : Row W B (v.bs ++ zs) (.slice a' n' c') := hrow.keep fun k e => h1 k (hrow.own k e).2 (fun e' => by
    subst e'
    rcases hlies with hh | ⟨j, hh, h2⟩
    · rw [hh] at e
      rw [hso k e] at hgl
      cases hgl
    · rw [hh] at e
      cases e
      omega) (fun e' => by subst e'; exact hnf e)
  refine ⟨o.own (.slice a' n' c') (.file l (r.length + 2)), (h.but l).keep (fun _ e => e) (h.but l).here (fun k t' e ht => hsame k t' e (fun e' => ht l _ e' rfl) (fun e' => ht l _ e' rfl)) (fun k t' e _ => hold k t' e) (fun k e => ?_), ?_, own_free hso hlies⟩
  · unfold Tags.own at e
    by_cases e1 : (Value.slice a' n' c').ownBlock = some k
    · exact hrow2.own k e1
    · rw [if_neg e1] at e
      exact ⟨(h.own k e).1, Nat.lt_of_lt_of_le (h.own k e).2 (Nat.le_trans hg.size hz0)⟩
  · rw [Fil.app_some hl]
    have hokl := hf.ok.2
    rw [hl] at hokl
    refine ⟨hf.t, hf.wh, rfl, hf.sb.keep (fun k e => hsame k _ e (by simp) (by simp)) (fun k e => hold k _ e), ⟨hf.ok.1, fun x hx => ?_⟩, ss0 ++ [.slice a' n' c'], by simp [hss], ?_, fun k e => hold k _ (hlo k e), fun i hi => ?_⟩
    · rcases List.mem_append.1 hx with hx | hx
      · exact hokl x (List.mem_append_left _ hx)
      · simp at hx; subst hx; exact hv
    · show W.ownsRow B _ 3 c.lt (r ++ [v.app zs]).length (verCells (r ++ [v.app zs]) (ss0 ++ [.slice a' n' c']))
      rw [verCells_snoc _ _ _ _ hss, List.length_append]
      rw [hla] at hrl
      have hrl0 := ownsRow_keep (w' := W0) hrl fun k e => h0 k _ (hlo k (by rw [hla]; exact e)) (by simp)
      have hset := ownsRow_set hrl0 (r.length * 3 + 1) (.slice a' n' c')
      have hcs : (verCells r ss0 ++ [.bool v.there, s, .int .i64 v.whole]).set (r.length * 3 + 1) (.slice a' n' c') = verCells r ss0 ++ [.bool (v.app zs).there, .slice a' n' c', .int .i64 (v.app zs).whole] := by
        rw [List.set_append, verCells_len _ _ hss, if_neg (by omega), show r.length * 3 + 1 - r.length * 3 = 1 by omega]
        rfl
      rw [hcs] at hset
      rw [hla]
      exact hset.kept hW (.inr (by simp [Value.ownBlock]; omega))
    · simp only [List.length_append, List.length_cons, List.length_nil] at hi
      by_cases hin : i < r.length
      · have e1 : (r ++ [v.app zs])[i]'(by simp; omega) = r[i] := by simp [hin]
        have e2 : (ss0 ++ [Value.slice a' n' c']).getD i undef = ss0.getD i undef := by simp [List.getD, List.getElem?_append, show i < ss0.length by omega]
        show BytesAt W B _ _ ((r ++ [v.app zs])[i]'(by simp; omega)).bs _
        rw [e1, e2]
        exact (hbs i hin).keep (fun k e => hsame k _ e (by simp; omega) (by simp)) (fun k e => hold k _ e)
      · obtain rfl : i = r.length := by omega
        have e1 : (r ++ [v.app zs])[r.length]'(by simp) = v.app zs := by simp
        have e2 : (ss0 ++ [Value.slice a' n' c']).getD r.length undef = .slice a' n' c' := by simp [List.getD, ← hss]
        show BytesAt W B _ _ ((r ++ [v.app zs])[r.length]'(by simp)).bs _
        rw [e1, e2]
        exact ⟨hrow2, fun k e => by simp [Tags.own, show (Value.slice a' n' c').ownBlock = some k from e]⟩
end

end Go.Proofs.Ytjpbniajhkindaa

namespace Go.Proofs.Ytjpbniajhkindaa
open Go.RowKit Go.Maps Dsk

theorem Reads.bytes {w : World} {a : Option Addr} {zs : List Int} (h : Reads w a zs) : ∀ ad, a = some ad → ∀ j u, (zs.map (Value.int .u8))[j]? = some u → w.cell? (ad.add j) = some u := fun ad e => by
  subst e
  exact h.news
theorem Reads.none_len {w : World} {a : Option Addr} {zs : List Int} (h : Reads w a zs) (ha : a = none) : zs.length = 0 := by
  cases zs with
  | nil => rfl
  | cons z zs =>
    obtain ⟨x, hx, _⟩ := h.cell 0 (by simp)
    rw [ha] at hx; cases hx

set_option maxRecDepth 100000 in
set_option maxHeartbeats 2000000 in
theorem append_sure (g B N : Nat) (o : Tags) (M : Files) (l : Name) (a : Option Addr) (cap : Nat) (zs : List Int) (w : World) (hd : DiskAt w B o g M N) (hp : Reads w a zs) (hna : a = none → cap = 0) (hl : (M.at l).later = []) (ht : (M.at l).sure.there = true)
    (hzl : (M.at l).sure.bs.length + zs.length ≤ 1048576) (h1 : 1 ≤ l.length) (h2 : l.length ≤ 64) (hN : N < 1000000000) (hBw : B ≤ w.heap.size) :
    Calls Try.prog 18 #[.pointer (some ⟨g, 0, none⟩), .string ⟨l.toArray⟩, .slice a zs.length cap] w fun e w' => e = .returned (.int .i64 0) ∧ ∃ o', DiskAt w' B o' g (upd M l (some ((M.at l).app zs))) (cntN M l N) ∧ Step o w o' w' := by
  obtain ⟨b, D, hd⟩ := hd
  obtain ⟨i0, hi, hz0, hz1, hz2⟩ := info_parts info5
  have hcell := hd.cell
  obtain ⟨⟨t, sa, sn, sc, wh, la, ln, lc, ls⟩, hf, hrun, _⟩ := hd.look l (by unfold maxLen; omega)
  simp only [mkV] at hrun
  have hb2 : Below w.heap.size w (w.alloc (.cells #[.bool t, .slice sa sn sc, .int .i64 wh, .slice la ln lc, .bool ls] 64)) := (Below.refl _ _).alloc (Nat.le_refl _) _
  have hH : Held (w.alloc (.cells #[.bool t, .slice sa sn sc, .int .i64 wh, .slice la ln lc, .bool ls] 64)) w.heap.size ⟨t, sa, sn, sc, wh, la, ln, lc, ls⟩ := heap_alloc_new _ _
  have htt : t = true := hf.t.trans ht
  have hsn : sn = (M.at l).sure.bs.length := hf.sn
  have hln : ln = 0 := by have := hf.ln; rw [hl] at this; exact this
  subst htt hln
  obtain ⟨bs, hbs⟩ : ∃ bs, bs = (M.at l).sure.bs := ⟨_, rfl⟩
  rw [← hbs] at hsn hzl
  subst hsn
  have hrow : Row (w.alloc (.cells #[.bool true, .slice sa bs.length sc, .int .i64 wh, .slice la 0 lc, .bool ls] 64)) B bs (.slice sa bs.length sc) := by
    rw [hbs]
    have := hf.sb.1.below hb2
    rwa [FV.sb, hbs] at this
  have HR := Lib.hid (refusal_ok g b l w hcell h1 h2)
  have HNW := Lib.hid (now_sure w.heap.size la lc _ hH.cells.2.2.2.1)
  have HB := Lib.hid hb2
  have HH := Lib.hid hH
  have hpb := (hp.below hb2).bytes
  have hpn : a = none → zs.length = 0 ∧ cap = 0 := fun e => ⟨hp.none_len e, hna e⟩
  have HF := Lib.hid hf
  have HD := Lib.hid hd
  have HL := Lib.hid hl
  have HBS := Lib.hid hbs
  have HPR := Lib.hid hp.hr
  have hzd : decide (1048576 - (bs.length : Int) < (zs.length : Int)) = false := by simp; omega
  obtain ⟨c0, c1, c2, c3, c4⟩ := hH.cells
  dsimp only at c0 c1 c2 c3 c4
  clear hf hd hl hbs hp hna hH hb2 ht
  go_enter Try.func18, Try.ntmps18
  go_wp2_with fail
  refine HR.out.mono ?_
  rintro e w1 ⟨rfl, rfl⟩
  go_wp2_with fail
  refine HNW.out.mono ?_
  rintro e w1 ⟨rfl, rfl⟩
  generalize hw2 : (w.alloc (.cells #[.bool true, .slice sa bs.length sc, .int .i64 wh, .slice la 0 lc, .bool ls] 64)) = w2 at *
  have HW2 := Lib.hid hw2
  have hsz : w2.heap.size = w.heap.size + 1 := by rw [← hw2]; simp
  have HSZ := Lib.hid hsz
  clear hw2 hsz hrun hcell
  go_wp2_with (at_builtin; go_loud (refine wpList_append_lies _ rfl _ _ 33 rfl B 5 i0 (.int .u8 0) 1 1 Try.underlying33 hi hz0 hz1 hz2 rfl (by decide) _ _ _ rfl hrow a zs.length cap (zs.map (Value.int .u8)) rfl (by simp) hpn hpb (ints_oneCell .u8 _) (by unfold maxLen; omega) (by omega) (by have := HB.out.size; omega) ?_))
  intro v' w3 hown hg3 hlies
  obtain ⟨a', c', rfl, _⟩ := slice_shape hown
  have hb1 : (some w.heap.size : Option Nat) ≠ (Value.slice sa bs.length sc).ownBlock := fun e => by
    have h3 := HF.out.sb.2 w.heap.size e.symm
    have := (HD.out.own w.heap.size (by rw [h3]; simp)).2
    omega
  have hx3 : Held w3 w.heap.size ⟨true, sa, bs.length, sc, wh, la, 0, lc, ls⟩ := (hg3.block _ (by rw [HSZ.out]; omega) hb1).trans HH.out
  obtain ⟨d0, d1, d2, d3, d4⟩ := hx3.cells
  dsimp only at d0 d1 d2 d3 d4
  have f1 := frozen_row (i := 1) hx3
  have f4 := frozen_row (i := 4) hx3
  have HX3 := Lib.hid hx3
  have HOWN := Lib.hid hown
  have HG3 := Lib.hid hg3
  have HLIES := Lib.hid hlies
  have HB1 := Lib.hid hb1
  clear hx3 hown hg3 hlies hb1 hrow hpb hpn c0 c1 c2 c3 c4
  go_wp2
  obtain ⟨W5, hW5⟩ : ∃ W5, W5 = ((w3.setCell ⟨w.heap.size, 1, none⟩ (.slice a' (bs.length + zs.length) c')).setCell ⟨w.heap.size, 4, none⟩ (.bool true)) := ⟨_, rfl⟩
  rw [← hW5]
  have hx5 : Held W5 w.heap.size ⟨true, a', bs.length + zs.length, c', wh, la, 0, lc, true⟩ := by
    rw [hW5]
    exact cells_set (cells_set HX3.out 1 _) 4 _
  have hg35 : w3.grownBy W5 (some w.heap.size) := by
    rw [hW5]
    exact (World.grownBy_setCell _ _ _ _).andThen (World.grownBy_setCell _ _ _ _) (fun j e => .inr e)
  have hgw : w.grownBy W5 (Value.slice sa bs.length sc).ownBlock :=
    ((World.grownBy_below HB.out _).andThen HG3.out (fun j e => .inr e)).andThen hg35 (fun j e => by cases e; exact .inl (Nat.le_refl _))
  have hrow5 : W5.ownsRow B 5 1 (.slice a' (bs.length + zs.length) c') (bs.length + zs.length) (bs.map (Value.int .u8) ++ zs.map (Value.int .u8)) :=
    HOWN.out.kept hg35 (.inr fun e => by
      rcases HLIES.out with h1 | h1
      · exact HB1.out (by rw [← h1, e])
      · rw [e, HSZ.out] at h1; simp at h1)
  have HTAG := Lib.hid (fun k (e : (Value.slice sa bs.length sc).ownBlock = some k) => HF.out.sb.2 k e)
  have hok5 : ((M.at l).sure.app zs).ok := Ver.app_ok HF.out.ok.1 (by rw [← HBS.out]; exact hzl) HPR.out
  obtain ⟨o', hd5, hf5, hfree⟩ := HD.out.appSure HF.out HL.out hok5 (W := W5.drew) (hgw.andThen (World.grownBy_drew W5 none) (fun j e => by cases e))
    (show Row W5.drew B ((M.at l).sure.bs ++ zs) (.slice a' (bs.length + zs.length) c') by rw [← HBS.out]; unfold Row; simpa using ownsRow_keep (w' := W5.drew) hrow5 (fun k e => rfl)) (HLIES.out.imp id fun h => ⟨_, h, by rw [HSZ.out]; omega⟩)
  clear hrow5 hg35 hok5
  obtain ⟨w', hrun5, hd', hg', hs'⟩ := hd5.store hf5 (by unfold maxLen; omega) (by unfold maxLen; omega)
  simp only [mkV] at hrun5
  obtain ⟨c0, c1, c2, c3, c4⟩ := hx5.cells
  dsimp only at c0 c1 c2 c3 c4
  have cg : W5.cell? ⟨g, 0, none⟩ = some (.map (some b)) := hd5.cell
  have HDD := Lib.hid hd'
  have HG' := Lib.hid hg'
  have HGW := Lib.hid (hgw.andThen (World.grownBy_drew W5 none) (fun j e => by cases e))
  have HFR := Lib.hid hfree
  clear hd' hg' hgw hfree hs' hd5 hf5 hx5 hW5
  go_still_tail 6, (by kernel_rfl)
  change wpList _ _ _ _ _ W5.drew
  generalize hWd : W5.drew = W6 at hrun5 HG' HGW ⊢
  clear hWd c0 c1 c2 c3 c4 cg
  go_wp2
  go_ret
  exact ⟨rfl, o', ⟨b, _, HDD.out⟩, .turned HGW.out (fun k e => by rw [HTAG.out k e]; simp) HG'.out HD.out.ob (fun k hk e _ => HFR.out k hk e)⟩

end Go.Proofs.Ytjpbniajhkindaa

namespace Go.Proofs.Ytjpbniajhkindaa
open Go.RowKit Go.Maps Dsk

set_option maxRecDepth 100000 in
set_option maxHeartbeats 2000000 in
theorem append_later (g B N : Nat) (o : Tags) (M : Files) (l : Name) (r : List Ver) (v : Ver) (a : Option Addr) (cap : Nat) (zs : List Int) (w : World) (hd : DiskAt w B o g M N) (hp : Reads w a zs) (hna : a = none → cap = 0) (hl : (M.at l).later = r ++ [v]) (ht : v.there = true)
    (hzl : v.bs.length + zs.length ≤ 1048576) (h1 : 1 ≤ l.length) (h2 : l.length ≤ 64) (hN : N < 1000000000) (hBw : B ≤ w.heap.size) (hn : r.length < 900000000) :
    Calls Try.prog 18 #[.pointer (some ⟨g, 0, none⟩), .string ⟨l.toArray⟩, .slice a zs.length cap] w fun e w' => e = .returned (.int .i64 0) ∧ ∃ o', DiskAt w' B o' g (upd M l (some ((M.at l).app zs))) (cntN M l N) ∧ Step o w o' w' := by
  obtain ⟨b, D, hd⟩ := hd
  obtain ⟨i0, hi, hz0, hz1, hz2⟩ := info_parts info5
  have hcell := hd.cell
  obtain ⟨⟨t, sa, sn, sc, wh, la, ln, lc, ls⟩, hf, hrun, _⟩ := hd.look l (by unfold maxLen; omega)
  simp only [mkV] at hrun
  have hb2 : Below w.heap.size w (w.alloc (.cells #[.bool t, .slice sa sn sc, .int .i64 wh, .slice la ln lc, .bool ls] 64)) := (Below.refl _ _).alloc (Nat.le_refl _) _
  have hH : Held (w.alloc (.cells #[.bool t, .slice sa sn sc, .int .i64 wh, .slice la ln lc, .bool ls] 64)) w.heap.size ⟨t, sa, sn, sc, wh, la, ln, lc, ls⟩ := heap_alloc_new _ _
  have hlen : (M.at l).later.length = r.length + 1 := by rw [hl]; simp
  have hln : ln = r.length + 1 := hf.ln.trans hlen
  subst hln
  obtain ⟨ss, k1, k2, k3, k4⟩ := hf.lt
  rw [hlen] at k1
  obtain ⟨ss0, s, rfl, hss0⟩ : ∃ ss0 s, ss = ss0 ++ [s] ∧ ss0.length = r.length := by
    rcases List.eq_nil_or_concat ss with h | ⟨ss0, s, h⟩
    · rw [h] at k1; simp at k1
    · rw [List.concat_eq_append] at h
      exact ⟨ss0, s, h, by rw [h] at k1; simpa using k1⟩
  rw [hlen, hl, verCells_snoc _ _ _ _ hss0] at k2
  have hbl : BytesAt w B o (.file l (r.length + 2)) v.bs s := by
    have h := k4 r.length (by omega)
    have e1 : (M.at l).later[r.length]'(by omega) = v := by simp [hl]
    have e2 : (ss0 ++ [s]).getD r.length undef = s := by simp [List.getD, ← hss0]
    rw [e1, e2] at h
    exact h
  have hbr : ∀ i (h : i < r.length), BytesAt w B o (.file l (i + 2)) r[i].bs (ss0.getD i undef) := fun i hi' => by
    have h := k4 i (by omega)
    have e1 : (M.at l).later[i]'(by omega) = r[i] := by simp [hl, hi']
    have e2 : (ss0 ++ [s]).getD i undef = ss0.getD i undef := by simp [List.getD, List.getElem?_append, show i < ss0.length by omega]
    rw [e1, e2] at h
    exact h
  obtain ⟨xa, xc, rfl⟩ := hbl.1.shape
  obtain ⟨gl, rfl⟩ : ∃ gl, la = some ⟨gl, 0, none⟩ := by
    rcases k2.2 with ⟨_, hn0⟩ | ⟨gl, cap, cur, hv, _⟩
    · omega
    · simp only [FV.lt, Value.slice.injEq] at hv
      exact ⟨gl, hv.1⟩
  have hog : o gl = some (.file l 1) := k3 gl rfl
  have hgs := (hd.own gl (by rw [hog]; simp)).2
  have add : ∀ j, ((⟨gl, 0, none⟩ : Addr).add j) = ⟨gl, j, none⟩ := fun j => by unfold Addr.add; split <;> simp_all
  have hcs := k2.cells (g := gl) rfl
  have y0 : w.cell? ⟨gl, r.length * 3, none⟩ = some (.bool true) := by
    rw [← add, ← ht]
    exact hcs _ _ (by rw [List.getElem?_append_right (by rw [verCells_len _ _ hss0]; omega), verCells_len _ _ hss0]; simp)
  have y1 : w.cell? ⟨gl, r.length * 3 + 1, none⟩ = some (.slice xa v.bs.length xc) := by
    rw [← add]
    exact hcs _ _ (by rw [List.getElem?_append_right (by rw [verCells_len _ _ hss0]; omega), verCells_len _ _ hss0, show r.length * 3 + 1 - r.length * 3 = 1 by omega]; rfl)
  obtain ⟨bs, hbs⟩ : ∃ bs, bs = v.bs := ⟨_, rfl⟩
  rw [← hbs] at y1 hzl
  have hrow : Row (w.alloc (.cells #[.bool t, .slice sa sn sc, .int .i64 wh, .slice (some ⟨gl, 0, none⟩) (r.length + 1) lc, .bool ls] 64)) B bs (.slice xa bs.length xc) := by
    rw [hbs]
    exact hbl.1.below hb2
  have hyf : w.frozen? ⟨gl, r.length * 3 + 1, none⟩ = false := by
    rcases k2.2 with ⟨hv, _⟩ | ⟨g', cap, cur, hv, _, hg', _⟩
    · cases hv
    · simp only [FV.lt, Value.slice.injEq, Option.some.injEq, Addr.mk.injEq] at hv
      obtain ⟨⟨rfl, _⟩, _⟩ := hv
      exact frozen_row hg'
  have z0 : (w.alloc (.cells #[.bool t, .slice sa sn sc, .int .i64 wh, .slice (some ⟨gl, 0, none⟩) (r.length + 1) lc, .bool ls] 64)).cell? ⟨gl, r.length * 3, none⟩ = some (.bool true) := (hb2.cell (p := ⟨gl, r.length * 3, none⟩) hgs).trans y0
  have z1 : (w.alloc (.cells #[.bool t, .slice sa sn sc, .int .i64 wh, .slice (some ⟨gl, 0, none⟩) (r.length + 1) lc, .bool ls] 64)).cell? ⟨gl, r.length * 3 + 1, none⟩ = some (.slice xa bs.length xc) := (hb2.cell (p := ⟨gl, r.length * 3 + 1, none⟩) hgs).trans y1
  have HYF := Lib.hid ((hb2.frozen (p := ⟨gl, r.length * 3 + 1, none⟩) hgs).trans hyf)
  have HR := Lib.hid (refusal_ok g b l w hcell h1 h2)
  have HNW := Lib.hid (now_later w.heap.size gl r.length lc _ (by omega) hH.cells.2.2.2.1)
  have HB := Lib.hid hb2
  have HH := Lib.hid hH
  have hpb := (hp.below hb2).bytes
  have hpn : a = none → zs.length = 0 ∧ cap = 0 := fun e => ⟨hp.none_len e, hna e⟩
  have HF := Lib.hid hf
  have HD := Lib.hid hd
  have HL := Lib.hid hl
  have HBS := Lib.hid hbs
  have HPR := Lib.hid hp.hr
  have HSS := Lib.hid hss0
  have HK2 := Lib.hid k2
  have HK3 := Lib.hid k3
  have HBR := Lib.hid hbr
  have HBL := Lib.hid hbl
  have HOG := Lib.hid hog
  have HGS := Lib.hid hgs
  have hzd : decide (1048576 - (bs.length : Int) < (zs.length : Int)) = false := by simp; omega
  clear hf hd hl hbs hp hna hH hb2 ht hss0 k1 k2 k3 k4 hbr hbl hog add hcs hlen y0 y1 hgs hyf
  go_enter Try.func18, Try.ntmps18
  go_wp2_with fail
  refine HR.out.mono ?_
  rintro e w1 ⟨rfl, rfl⟩
  go_wp2_with fail
  refine HNW.out.mono ?_
  rintro e w1 ⟨rfl, rfl⟩
  generalize hw2 : (w.alloc (.cells #[.bool t, .slice sa sn sc, .int .i64 wh, .slice (some ⟨gl, 0, none⟩) (r.length + 1) lc, .bool ls] 64)) = w2 at *
  have HW2 := Lib.hid hw2
  have hsz : w2.heap.size = w.heap.size + 1 := by rw [← hw2]; simp
  have HSZ := Lib.hid hsz
  clear hw2 hsz hrun hcell
  go_wp2_with (at_builtin; go_loud (refine wpList_append_lies _ rfl _ _ 33 rfl B 5 i0 (.int .u8 0) 1 1 Try.underlying33 hi hz0 hz1 hz2 rfl (by decide) _ _ _ rfl hrow a zs.length cap (zs.map (Value.int .u8)) rfl (by simp) hpn hpb (ints_oneCell .u8 _) (by unfold maxLen; omega) (by omega) (by have := HB.out.size; omega) ?_))
  intro v' w3 hown hg3 hlies
  replace hg3 : w2.grownBy w3 (Value.slice xa v.bs.length xc).ownBlock := by rw [← HBS.out]; exact hg3
  replace hlies : v'.ownBlock = (Value.slice xa v.bs.length xc).ownBlock ∨ v'.ownBlock = some w2.heap.size := by rw [← HBS.out]; exact hlies
  obtain ⟨a', c', rfl, _⟩ := slice_shape hown
  have hb1 : (some w.heap.size : Option Nat) ≠ (Value.slice xa v.bs.length xc).ownBlock := fun e => by
    have h3 := HBL.out.2 w.heap.size e.symm
    have := (HD.out.own w.heap.size (by rw [h3]; simp)).2
    omega
  have hgl3 : (some gl : Option Nat) ≠ (Value.slice xa v.bs.length xc).ownBlock := fun e => by
    have h3 := HBL.out.2 gl e.symm
    rw [HOG.out] at h3
    simp at h3
  have hx3 : Held w3 w.heap.size ⟨t, sa, sn, sc, wh, some ⟨gl, 0, none⟩, r.length + 1, lc, ls⟩ := (hg3.block _ (by rw [HSZ.out]; omega) hb1).trans HH.out
  obtain ⟨d0, d1, d2, d3, d4⟩ := hx3.cells
  dsimp only at d0 d1 d2 d3 d4
  have f4 := frozen_row (i := 4) hx3
  have hglb := hg3.block gl (by rw [HSZ.out]; have := HGS.out; omega) hgl3
  have e1 : w3.cell? ⟨gl, r.length * 3 + 1, none⟩ = some (.slice xa bs.length xc) := (World.cell?_of_block (a := ⟨gl, r.length * 3 + 1, none⟩) hglb).trans z1
  have fe : w3.frozen? ⟨gl, r.length * 3 + 1, none⟩ = false := (World.frozen?_of_block (a := ⟨gl, r.length * 3 + 1, none⟩) hglb).trans HYF.out
  have hne : gl ≠ w.heap.size := by have := HGS.out; omega
  have g4 : (w3.setCell ⟨gl, r.length * 3 + 1, none⟩ (.slice a' (bs.length + zs.length) c')).cell? ⟨w.heap.size, 4, none⟩ = some (.bool ls) := by
    rw [World.cell?_setCell_far _ _ _ _ (by exact hne)]; exact d4
  have g5 : (w3.setCell ⟨gl, r.length * 3 + 1, none⟩ (.slice a' (bs.length + zs.length) c')).frozen? ⟨w.heap.size, 4, none⟩ = false := by
    rw [World.frozen?_setCell]; exact f4
  have HX3 := Lib.hid hx3
  have HOWN := Lib.hid hown
  have HG3 := Lib.hid hg3
  have HLIES := Lib.hid hlies
  have HB1 := Lib.hid hb1
  have HNE := Lib.hid hne
  clear hx3 hown hg3 hlies hb1 hrow hpb hpn hglb hgl3 z0 z1 d0 d1 d2 d3 hne
  go_wp2
  obtain ⟨W5, hW5⟩ : ∃ W5, W5 = ((w3.setCell ⟨gl, r.length * 3 + 1, none⟩ (.slice a' (bs.length + zs.length) c')).setCell ⟨w.heap.size, 4, none⟩ (.bool true)) := ⟨_, rfl⟩
  rw [← hW5]
  have hx5 : Held W5 w.heap.size ⟨t, sa, sn, sc, wh, some ⟨gl, 0, none⟩, r.length + 1, lc, true⟩ := by
    rw [hW5]
    exact cells_set (show ((w3.setCell ⟨gl, r.length * 3 + 1, none⟩ (.slice a' (bs.length + zs.length) c')).heap[w.heap.size]? = _) by rw [Below.heap_setCell _ _ _ _ (fun e => HNE.out e.symm)]; exact HX3.out) 4 _
  have hg45 : (w3.setCell ⟨gl, r.length * 3 + 1, none⟩ (.slice a' (bs.length + zs.length) c')).grownBy W5 (some w.heap.size) := by
    rw [hW5]
    exact World.grownBy_setCell _ _ _ _
  have HTAG : Hid (∀ k, some k = some gl ∨ (Value.slice xa v.bs.length xc).ownBlock = some k → o k ≠ none) := fun k e => by
    rcases e with e | e
    · cases e; rw [HOG.out]; simp
    · rw [HBL.out.2 k e]; simp
  have hok5 : (v.app zs).ok := Ver.app_ok (HF.out.ok.2 v (by rw [HL.out]; simp)) (by rw [← HBS.out]; exact hzl) HPR.out
  have hg3' : w.grownBy w3 (Value.slice xa v.bs.length xc).ownBlock := (World.grownBy_below HB.out _).andThen HG3.out (fun j e => .inr e)
  have hblk : ∀ k, k < w.heap.size → o k = none → W5.heap[k]? = w.heap[k]? := fun k hk e => by
    rw [hW5, Below.heap_setCell _ _ _ _ (by show k ≠ w.heap.size; omega), Below.heap_setCell _ _ _ _ (by show k ≠ gl; intro e'; rw [e', HOG.out] at e; cases e)]
    exact hg3'.block k hk fun e' => by rw [HBL.out.2 k e'.symm] at e; cases e
  have hsz5 : w.heap.size ≤ W5.heap.size := by rw [hW5]; simpa [World.setCell] using hg3'.size
  have hst5 : W5.os = w.os ∧ W5.tape = w.tape ∧ W5.output = w.output := by rw [hW5]; exact ⟨hg3'.os, hg3'.tape, hg3'.output⟩
  obtain ⟨o', hd5, hf5, hfree⟩ := HD.out.appLater HF.out HL.out hok5 (W := W5.drew) (W0 := w3) (gl := gl) rfl HSS.out HK2.out HK3.out HBR.out HBL.out.2 hg3'
    (show Row w3 B (v.bs ++ zs) (.slice a' (bs.length + zs.length) c') by rw [← HBS.out]; unfold Row; simpa using HOWN.out) (HLIES.out.imp id fun h => ⟨_, h, by rw [HSZ.out]; omega⟩) (Nat.le_refl _)
    (fun e => by
      rcases HLIES.out with h1 | h1
      · exact HB1.out (by rw [← h1, e])
      · rw [e, HSZ.out] at h1; simp at h1)
    (hg45.andThen (World.grownBy_drew W5 none) (fun j e => by cases e))
  clear hg45 hok5 hg3' d4 f4 e1 fe g4 g5
  obtain ⟨w', hrun5, hd', hg', hs'⟩ := hd5.store hf5 (by unfold maxLen; omega) (by unfold maxLen; omega)
  simp only [mkV] at hrun5
  obtain ⟨c0, c1, c2, c3, c4⟩ := hx5.cells
  dsimp only at c0 c1 c2 c3 c4
  have cg : W5.cell? ⟨g, 0, none⟩ = some (.map (some b)) := hd5.cell
  have HDD := Lib.hid hd'
  have HST : Hid (Step o w o' w') := by
    refine ⟨hg'.os.trans hst5.1, hg'.tape.trans hst5.2.1, hg'.output.trans hst5.2.2, Nat.le_trans hsz5 hg'.size, fun k hk e => ?_, fun k hk e _ => hfree k hk e⟩
    exact (hg'.block k (Nat.lt_of_lt_of_le hk hsz5) fun e' => by cases e'; rw [HD.out.ob] at e; cases e).trans (hblk k hk e)
  clear hd' hg' hfree hs' hd5 hf5 hx5 hW5 hblk hsz5 hst5
  go_still_tail 6, (by kernel_rfl)
  change wpList _ _ _ _ _ W5.drew
  generalize hWd : W5.drew = W6 at hrun5 ⊢
  clear hWd c0 c1 c2 c3 c4 cg
  go_wp2
  go_ret
  exact ⟨rfl, o', ⟨b, _, HDD.out⟩, HST.out⟩

/-- of a file that is not there: as a replacement -/
theorem append_new (g B N : Nat) (o : Tags) (M : Files) (l : Name) (a : Option Addr) (cap : Nat) (zs : List Int) (w : World) (hd : DiskAt w B o g M N) (hp : Reads w a zs) (hna : a = none → cap = 0) (ht : (M.at l).now.there = false)
    (hzl : zs.length ≤ 1048576) (h1 : 1 ≤ l.length) (h2 : l.length ≤ 64) (hN : N < 64) (hn : ∀ l f, M l = some f → f.later.length < 1000000000) (hBw : B ≤ w.heap.size) :
    Calls Try.prog 18 #[.pointer (some ⟨g, 0, none⟩), .string ⟨l.toArray⟩, .slice a zs.length cap] w fun e w' => e = .returned (.int .i64 0) ∧ ∃ o', DiskAt w' B o' g (upd M l (some ((M.at l).chg ⟨true, zs, zs.length⟩))) (cntN M l N) ∧ Step o w o' w' := by
  have hn1 : (M.at l).later.length < 1000000000 := by
    unfold Files.at
    cases h : M l with
    | none => simp [Fil.zero]
    | some f => exact hn l f h
  obtain ⟨b, D, hd⟩ := hd
  have hcell := hd.cell
  obtain ⟨⟨t, sa, sn, sc, wh, la, ln, lc, ls⟩, hf, hrun, _⟩ := hd.look l (by unfold maxLen; omega)
  simp only [mkV] at hrun
  have hb2 : Below w.heap.size w (w.alloc (.cells #[.bool t, .slice sa sn sc, .int .i64 wh, .slice la ln lc, .bool ls] 64)) := (Below.refl _ _).alloc (Nat.le_refl _) _
  have hH : Held (w.alloc (.cells #[.bool t, .slice sa sn sc, .int .i64 wh, .slice la ln lc, .bool ls] 64)) w.heap.size ⟨t, sa, sn, sc, wh, la, ln, lc, ls⟩ := heap_alloc_new _ _
  obtain ⟨P, q, na, cp, j, hnow, c0, c1, c2, hby⟩ := now_any hH (hf.below hb2 (fun k e => (hd.own k e).2)) hn1
  rw [ht] at c0
  have HR := Lib.hid (refusal_ok g b l w hcell h1 h2)
  have HN := Lib.hid hnow
  have HB := Lib.hid hb2
  have HS := Lib.hid (replace_any g B N o M l a zs.length cap zs _ ⟨b, D, hd.below hb2⟩ rfl (hp.below hb2) hna hzl (.inr hN) h1 h2 (by omega) hn (Nat.le_trans hBw hb2.size))
  clear hnow hby hf hd hn hn1 hH hb2 ht hBw hp hna
  go_enter Try.func18, Try.ntmps18
  go_wp2_with fail
  refine HR.out.mono ?_
  rintro e w1 ⟨rfl, rfl⟩
  go_wp2_with fail
  refine HN.out.mono ?_
  rintro e w1 ⟨rfl, rfl⟩
  go_wp2_with fail
  refine HS.out.mono ?_
  rintro e w1 ⟨rfl, o', hd', hst⟩
  have HD := Lib.hid hd'
  have HST := Lib.hid ((Step.of_below o HB.out).trans hst)
  clear hd' hst
  go_wp2
  go_ret
  exact ⟨rfl, o', HD.out, HST.out⟩

/-- bytes behind a file that is there -/
theorem append_there (g B N : Nat) (o : Tags) (M : Files) (l : Name) (a : Option Addr) (cap : Nat) (zs : List Int) (w : World) (hd : DiskAt w B o g M N) (hp : Reads w a zs) (hna : a = none → cap = 0) (ht : (M.at l).now.there = true)
    (hzl : (M.at l).now.bs.length + zs.length ≤ 1048576) (h1 : 1 ≤ l.length) (h2 : l.length ≤ 64) (hN : N < 1000000000) (hn : (M.at l).later.length < 900000000) (hBw : B ≤ w.heap.size) :
    Calls Try.prog 18 #[.pointer (some ⟨g, 0, none⟩), .string ⟨l.toArray⟩, .slice a zs.length cap] w fun e w' => e = .returned (.int .i64 0) ∧ ∃ o', DiskAt w' B o' g (upd M l (some ((M.at l).app zs))) (cntN M l N) ∧ Step o w o' w' := by
  rcases List.eq_nil_or_concat (M.at l).later with hl | ⟨r, v, hl⟩
  · rw [Fil.now_nil hl] at ht hzl
    exact append_sure g B N o M l a cap zs w hd hp hna hl ht hzl h1 h2 hN hBw
  · rw [List.concat_eq_append] at hl
    rw [Fil.now_some hl] at ht hzl
    refine append_later g B N o M l r v a cap zs w hd hp hna hl ht hzl h1 h2 hN hBw ?_
    rw [hl] at hn
    simp at hn
    omega

end Go.Proofs.Ytjpbniajhkindaa

namespace Go.Proofs.Ytjpbniajhkindaa
open Go.RowKit Go.Maps Dsk

/-- the files while a crash is under way: of the first i that are loose so much has stayed -/
def crashedTo (M : Files) (ks : List Name) (f : Nat → Nat) (i : Nat) : Files := fun n => if n ∈ ks.take i then settled ((M.at n).torn (f (ks.idxOf n))) else M n

theorem crashedTo_zero (M : Files) (ks : List Name) (f : Nat → Nat) : crashedTo M ks f 0 = M := by funext n; simp [crashedTo]
theorem crashedTo_all (M : Files) (ks : List Name) (f : Nat → Nat) : crashedTo M ks f ks.length = crashed M ks f := by funext n; simp [crashedTo, crashed]
theorem crashedTo_at {M : Files} {ks : List Name} (f : Nat → Nat) {i : Nat} (hi : i < ks.length) (hn : ks.Nodup) : crashedTo M ks f i ks[i] = M ks[i] := by
  have : ks[i] ∉ ks.take i := fun h => by
    obtain ⟨j, hj, e⟩ := List.mem_iff_getElem.1 h
    rw [List.getElem_take] at e
    have hj' : j < i := by simp at hj; omega
    have := (List.getElem_inj hn).1 e
    omega
  simp [crashedTo, this]
theorem crashedTo_succ {M : Files} {ks : List Name} (f : Nat → Nat) {i : Nat} (hi : i < ks.length) (hn : ks.Nodup) : crashedTo M ks f (i + 1) = upd (crashedTo M ks f i) ks[i] (settled ((M.at ks[i]).torn (f i))) := by
  funext n
  have hx : ks.idxOf ks[i] = i := hn.idxOf_getElem i hi
  by_cases h : n = ks[i]
  · subst h
    rw [upd_same]
    have hm : ks[i] ∈ ks.take (i + 1) := List.mem_take_iff_getElem.2 ⟨i, by omega, rfl⟩
    simp [crashedTo, hm, hx]
  · rw [upd_other _ _ h]
    have : n ∈ ks.take (i + 1) ↔ n ∈ ks.take i := by
      rw [List.take_succ_eq_append_getElem hi, List.mem_append, List.mem_singleton]
      exact ⟨fun h' => h'.elim id (fun e => absurd e h), .inl⟩
    simp [crashedTo, this]

theorem Fil.torn_ok {f : Fil} (h : f.ok) (p : Nat) : (f.torn p).bs.length ≤ 1048576 ∧ ∀ x ∈ (f.torn p).bs, 0 ≤ x ∧ x ≤ 255 := by
  have hv : (tornGo p f.sure f.later).2.ok := by
    rcases tornGo_mem p f.sure f.later with e | e
    · rw [e]; exact h.1
    · exact h.2 _ e
  refine ⟨?_, fun x hx => hv.2.2 x (List.mem_of_mem_take hx)⟩
  have := hv.2.1
  simp [Fil.torn, tornOf]
  omega

/-- the i-th number: none, and below 0, is 0 -/
def stayN (ss : List Int) (i : Nat) : Nat := (ss.getD i 0).toNat

/-- numbers that a crash is told, in a block that is nobody's of the disk -/
structure Stay (w : World) (o : Tags) (sa : Option Addr) (ss : List Int) : Prop where
  cell : ∀ i (h : i < ss.length), ∃ gs of, sa = some ⟨gs, of, none⟩ ∧ gs < w.heap.size ∧ o gs = none ∧ w.cell? ⟨gs, of + i, none⟩ = some (.int .i64 ss[i])
  wf : ∀ x ∈ ss, -9223372036854775808 ≤ x ∧ x ≤ 9223372036854775807

/-- what the files of a disk may be -/
def Good (M : Files) : Prop := ∀ l f, M l = some f → l.length ≤ 64 ∧ f.later.length < 1000000000

set_option maxRecDepth 100000 in
set_option maxHeartbeats 2000000 in
theorem crash_any (g B N : Nat) (o : Tags) (M : Files) (sa : Option Addr) (sc : Nat) (ss : List Int) (w : World) (hd : DiskAt w B o g M N) (hs : Stay w o sa ss) (hgood : Good M) (hN : N < 1000000000) :
    Calls Try.prog 10 #[.pointer (some ⟨g, 0, none⟩), .slice sa ss.length sc] w fun e w' => e = .returned (.tuple #[]) ∧ ∃ ks o', NamesOf M (fun f => f.loose) ks ∧ DiskAt w' B o' g (crashed M ks (stayN ss)) N ∧ Step o w o' w' := by
  have HL := Lib.hid (loose_all g B N o M w hd hN (fun l f h => (hgood l f h).2))
  have hown : ∀ k, o k ≠ none → k < w.heap.size := by
    obtain ⟨b, D, h⟩ := hd
    exact fun k e => (h.own k e).2
  have HD := Lib.hid hd
  have HS := Lib.hid hs
  have HG := Lib.hid hgood
  have HOW := Lib.hid hown
  clear hd hs hgood hown
  go_enter Try.func10, Try.ntmps10
  go_wp2_with fail
  refine HL.out.mono ?_
  rintro e w1 ⟨ks, ka, kc, rfl, hks, hrow, hb1, hkl⟩
  have HK := Lib.hid hks
  have HR := Lib.hid hrow
  have HB1 := Lib.hid hb1
  have HKL := Lib.hid hkl
  clear hks hrow hb1 hkl HL
  go_wp2
  go_loopw [10] (fun iv wr => ∃ (i : Nat) (oi : Tags), i ≤ ks.length ∧ iv = .int .i64 i ∧ DiskAt wr B oi g (crashedTo M ks (stayN ss) i) N ∧ Step o w1 oi wr) (fun iv _ => ks.length - (intOf iv).toNat)
  case atStart =>
    refine ⟨0, o, Nat.zero_le _, rfl, ?_, Step.refl _ _⟩
    rw [crashedTo_zero]
    obtain ⟨b, D, h⟩ := HD.out
    exact ⟨b, D, h.below HB1.out⟩
  case round =>
    obtain ⟨i, oi, hi, rfl, hdi, hst⟩ := hrel
    by_cases hlt : i < ks.length
    · have hib : i ≤ 1000000000 := by have := HKL.out; omega
      obtain ⟨l, hkl⟩ : ∃ l, l = ks[i] := ⟨_, rfl⟩
      have hmem : l ∈ ks := by rw [hkl]; exact List.getElem_mem hlt
      obtain ⟨f, hMf, hfl⟩ := (HK.out.2 l).1 hmem
      have hgd := HG.out l f hMf
      have hat : crashedTo M ks (stayN ss) i l = some f := by rw [hkl, crashedTo_at _ hlt HK.out.nodup, ← hkl]; exact hMf
      have hat2 : (crashedTo M ks (stayN ss) i).at l = f := by unfold Files.at; rw [hat]; rfl
      have hmat : M.at l = f := by simp [Files.at, hMf]
      -- the names' row
      obtain ⟨gk, rfl⟩ : ∃ gk, ka = some ⟨gk, 0, none⟩ := by
        rcases HR.out.2 with ⟨hv, hn0⟩ | ⟨gk, cap, cur, hv, _⟩
        · omega
        · simp only [Value.slice.injEq] at hv
          exact ⟨gk, hv.1⟩
      have hgk := World.ownsRow.lt HR.out gk rfl
      have hogk : o gk = none := by
        cases ho : o gk with
        | none => rfl
        | some t => have := HOW.out gk (by rw [ho]; simp); omega
      have hcn : w1.cell? ⟨gk, i, none⟩ = some (.string ⟨l.toArray⟩) := by
        have := World.ownsRow.cells HR.out (g := gk) rfl i (encStr l) (by rw [List.getElem?_map, List.getElem?_eq_getElem hlt, hkl]; rfl)
        rwa [show ((⟨gk, 0, none⟩ : Addr).add i) = ⟨gk, i, none⟩ by unfold Addr.add; split <;> simp_all] at this
      have hcr : wr.cell? ⟨gk, i, none⟩ = some (.string ⟨l.toArray⟩) := (World.cell?_of_block (a := ⟨gk, i, none⟩) (hst.block gk hgk.2 hogk)).trans hcn
      obtain ⟨b, D, hdi'⟩ := hdi
      have hcell := hdi'.cell
      obtain ⟨⟨t, sa1, sn1, sc1, wh1, la1, ln1, lc1, ls1⟩, hf, hrun, _⟩ := hdi'.look l (by unfold maxLen; omega)
      rw [hat2] at hf
      have hok := Fil.torn_ok hf.ok (stayN ss i)
      have hpw : (stayN ss i) ≤ 9223372036854775807 := by
        unfold stayN
        by_cases h : i < ss.length
        · have := HS.out.wf ss[i] (List.getElem_mem h)
          have e : ss.getD i 0 = ss[i] := by simp [List.getD, h]
          rw [e]; omega
        · have e : ss.getD i 0 = 0 := by simp [List.getD, show ss[i]? = none from List.getElem?_eq_none (by omega)]
          rw [e]; simp
      have HT := Lib.hid (torn_any B oi l ⟨t, sa1, sn1, sc1, wh1, la1, ln1, lc1, ls1⟩ f (stayN ss i) wr hf hpw hgd.2 (fun k e => (hdi'.own k e).2))
      simp only [mkV] at hrun HT
      have HSE := Lib.hid (fun (W : World) (hb : Below wr.heap.size wr W) a c (hr : Row wr B (f.torn (stayN ss i)).bs (.slice a (f.torn (stayN ss i)).bs.length c)) (ho : ∀ j, (Value.slice a (f.torn (stayN ss i)).bs.length c).ownBlock = some j → ∃ k, oi j = some (.file l k)) =>
        settle_of g B N oi (crashedTo M ks (stayN ss) i) l (f.torn (stayN ss i)) a c W ⟨b, D, hdi'.below hb⟩ (by rw [hat]; rfl) (hr.below hb) hok.1 hok.2 ho hgd.1 (by omega))
      have HST := Lib.hid hst
      have HSU : Hid (upd (crashedTo M ks (stayN ss) i) l (settled (f.torn (stayN ss i))) = crashedTo M ks (stayN ss) (i + 1)) := by
        unfold Hid
        rw [crashedTo_succ _ hlt HK.out.nodup, ← hkl, hmat]
      have hsi : ∀ h : i < ss.length, ∃ gs of, sa = some ⟨gs, of, none⟩ ∧ wr.cell? ⟨gs, of + i, none⟩ = some (.int .i64 ss[i]) := fun h => by
        obtain ⟨gs, of, h1, h2, h3, h4⟩ := HS.out.cell i h
        refine ⟨gs, of, h1, ?_⟩
        have hg1 := HB1.out.block gs h2
        have hg2 := hst.block gs (Nat.lt_of_lt_of_le h2 HB1.out.size) h3
        exact (World.cell?_of_block (a := ⟨gs, of + i, none⟩) (hg2.trans hg1)).trans h4
      obtain ⟨p0, hp0⟩ : ∃ p0, p0 = (stayN ss i) := ⟨_, rfl⟩
      rw [← hp0] at HT HSE HSU hpw
      have HP0 := Lib.hid hp0
      have HSI := Lib.hid hsi
      clear hst hkl hmem hMf hfl hgd hat hat2 hmat hgk hogk hcn hdi' hf hok hp0 hsi
      by_cases hil : i < ss.length
      · obtain ⟨gs, of, rfl, hcs⟩ := HSI.out hil
        have hpe : p0 = ss[i].toNat := by
          have := HP0.out
          simp [stayN, List.getD, hil] at this
          exact this
        obtain ⟨x, hx⟩ : ∃ x, x = ss[i] := ⟨_, rfl⟩
        rw [← hx] at hcs hpe
        have hmx : max (0 : Int) x = (p0 : Int) := by omega
        clear hx hpe
        go_wp2_with fail
        refine HT.out.mono ?_
        rintro e w3 ⟨a3, c3, rfl, hr3, ho3, hb3⟩
        have HS3 := Lib.hid (HSE.out w3 hb3 a3 c3 hr3 ho3)
        have HB3 := Lib.hid hb3
        clear hr3 ho3 hb3
        go_wp2_with fail
        refine HS3.out.mono ?_
        rintro e w4 ⟨rfl, o4, hd4, hst4⟩
        rw [HSU.out] at hd4
        have HD4 := Lib.hid hd4
        have HST4 := Lib.hid (HST.out.trans ((Step.of_below oi HB3.out).trans hst4))
        clear hd4 hst4
        go_wp2
        go_roundw
        case rel => exact ⟨i + 1, o4, hlt, by go_num, HD4.out, HST4.out⟩
        case measure => simp [intOf]; omega
      · have hz : (p0 : Int) = 0 := by
          have := HP0.out
          simp [stayN, List.getD, show ss[i]? = none from List.getElem?_eq_none (by omega)] at this
          omega
        rw [hz] at HT
        clear hz
        go_wp2_with fail
        refine HT.out.mono ?_
        rintro e w3 ⟨a3, c3, rfl, hr3, ho3, hb3⟩
        have HS3 := Lib.hid (HSE.out w3 hb3 a3 c3 hr3 ho3)
        have HB3 := Lib.hid hb3
        clear hr3 ho3 hb3
        go_wp2_with fail
        refine HS3.out.mono ?_
        rintro e w4 ⟨rfl, o4, hd4, hst4⟩
        rw [HSU.out] at hd4
        have HD4 := Lib.hid hd4
        have HST4 := Lib.hid (HST.out.trans ((Step.of_below oi HB3.out).trans hst4))
        clear hd4 hst4
        go_wp2
        go_roundw
        case rel => exact ⟨i + 1, o4, hlt, by go_num, HD4.out, HST4.out⟩
        case measure => simp [intOf]; omega
    · have hik : i = ks.length := by omega
      subst hik
      have HE := Lib.hid hdi
      have HST := Lib.hid ((Step.of_below o HB1.out).trans hst)
      clear hdi hst hi
      go_wp2
      go_end0
      rw [crashedTo_all] at HE
      exact ⟨rfl, ks, oi, HK.out, HE.out, HST.out⟩

end Go.Proofs.Ytjpbniajhkindaa
