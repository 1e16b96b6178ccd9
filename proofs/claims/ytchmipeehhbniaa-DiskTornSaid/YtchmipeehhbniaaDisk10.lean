/- Append, by its contract. -/
import Derived.Test.YtchmipeehhbniaaDisk9
namespace Go.Proofs.Ytchmipeehhbniaa
open Go.RowKit Go.Maps Dsk

section
variable {w w' W : World} {B : Nat} {o o' : Tags} {g b N : Nat} {D : DataW Value} {M : Files} {l : Name}

/-- a slice that has grown: in its own block, or in a new one -/
theorem own_old {x y : Value} {t : Tag} (hx : ∀ k, x.ownBlock = some k → o k = some t) (hl : y.ownBlock = x.ownBlock ∨ ∃ k, y.ownBlock = some k ∧ w.heap.size ≤ k) (ho : ∀ k, o k ≠ none → B ≤ k ∧ k < w.heap.size) : ∀ k t', o k = some t' → o.own y t k = some t' := fun k t' e => by
  unfold Tags.own
  by_cases e1 : y.ownBlock = some k
  · rw [if_pos e1]
    rcases hl with h1 | ⟨j, h1, h2⟩
    · rw [h1] at e1
      rw [← hx k e1, e]
    · rw [h1] at e1
      cases e1
      have := (ho k (by rw [e]; simp)).2
      omega
  · rw [if_neg e1]; exact e

theorem own_free {x y : Value} {t : Tag} (hx : ∀ k, x.ownBlock = some k → o k = some t) (hl : y.ownBlock = x.ownBlock ∨ ∃ k, y.ownBlock = some k ∧ w.heap.size ≤ k) : ∀ k, k < w.heap.size → o k = none → o.own y t k = none := fun k hk e => by
  unfold Tags.own
  by_cases e1 : y.ownBlock = some k
  · rcases hl with h1 | ⟨j, h1, h2⟩
    · rw [h1] at e1
      rw [hx k e1] at e; cases e
    · rw [h1] at e1
      cases e1
      omega
  · rw [if_neg e1]; exact e

theorem Ver.app_ok {v : Ver} {zs : List Int} (h : v.ok) (hz : v.bs.length + zs.length ≤ 1048576) (hr : ∀ x ∈ zs, 0 ≤ x ∧ x ≤ 255) : (v.app zs).ok :=
  ⟨by have := h.1; simp [Ver.app]; omega, by simp [Ver.app]; omega, fun x hx => by
    rcases List.mem_append.1 (show x ∈ v.bs ++ zs from hx) with hx | hx
    · exact h.2.2 x hx
    · exact hr x hx⟩

/-- bytes behind what is sure -/
theorem DiskIn.appSure (h : DiskIn w B o g b D M N none) {c : FV} {f : Fil} (hf : FileAt w B o l c f) (hl : f.later = []) {zs : List Int} (hv : (f.sure.app zs).ok) {a' : Option Addr} {n' c' : Nat}
    (hg : w.grownBy W c.sb.ownBlock) (hrow : Row W B (f.sure.bs ++ zs) (.slice a' n' c')) (hlies : (Value.slice a' n' c').ownBlock = c.sb.ownBlock ∨ ∃ k, (Value.slice a' n' c').ownBlock = some k ∧ w.heap.size ≤ k) :
    ∃ o', DiskIn W B o' g b D M N (some l) ∧ FileAt W B o' l { c with sa := a', sn := n', sc := c', ls := true } (f.app zs) ∧ ∀ k, k < w.heap.size → o k = none → o' k = none := by
  have hold := own_old (w := w) hf.sb.2 hlies h.own
  have hsame : ∀ k t', o k = some t' → t' ≠ .file l 0 → W.heap[k]? = w.heap[k]? := fun k t' e hne =>
    hg.block k (h.own k (by rw [e]; simp)).2 fun e' => by
      rw [hf.sb.2 k e'.symm] at e
      cases e
      exact hne rfl
  refine ⟨o.own (.slice a' n' c') (.file l 0), (h.but l).keep (fun _ e => e) (h.but l).here (fun k t' e ht => hsame k t' e fun e' => ht l 0 e' rfl) (fun k t' e _ => hold k t' e) (fun k e => ?_), ?_, own_free hf.sb.2 hlies⟩
  · unfold Tags.own at e
    by_cases e1 : (Value.slice a' n' c').ownBlock = some k
    · exact hrow.own k e1
    · rw [if_neg e1] at e
      exact ⟨(h.own k e).1, Nat.lt_of_lt_of_le (h.own k e).2 hg.size⟩
  · rw [Fil.app_nil hl]
    obtain ⟨ss, k1, k2, k3, _⟩ := hf.lt
    rw [hl] at k1 k2
    exact ⟨hf.t, hf.wh, rfl, ⟨hrow, fun k e => by simp [Tags.own, show (Value.slice a' n' c').ownBlock = some k from e]⟩, ⟨hv, fun v hv => by cases hv⟩, ss, k1, ownsRow_keep k2 fun k e => hsame k _ (k3 k e) (by simp), fun k e => hold k _ (k3 k e), fun i hi => absurd hi (by simp)⟩

theorem ownsRow_set {e : TypeId} {size n : Nat} {xs : List Value} {gl : Nat} {cp : Nat} (h : w.ownsRow B e size (.slice (some ⟨gl, 0, none⟩) n cp) n xs) (i : Nat) (u : Value) : (w.setCell ⟨gl, i, none⟩ u).ownsRow B e size (.slice (some ⟨gl, 0, none⟩) n cp) n (xs.set i u) := by
  refine ⟨by simp [h.1], ?_⟩
  rcases h.2 with ⟨hv, _⟩ | ⟨g', cap, cur, hv, hB, hg, h1, h2, h3, h4⟩
  · cases hv
  · simp only [Value.slice.injEq, Option.some.injEq, Addr.mk.injEq] at hv
    obtain ⟨⟨rfl, _⟩, _, rfl⟩ := hv
    refine .inr ⟨gl, cp, cur.setIfInBounds i u, rfl, hB, cells_set hg i u, h1, h2, by simpa using h3, ?_⟩
    rw [Array.toList_setIfInBounds, List.take_set, h4]

/-- bytes behind the last version's -/
theorem DiskIn.appLater (h : DiskIn w B o g b D M N none) {c : FV} {f : Fil} (hf : FileAt w B o l c f) {r : List Ver} {v : Ver} (hl : f.later = r ++ [v]) {zs : List Int} (hv : (v.app zs).ok) {s : Value} {gl : Nat} {ss0 : List Value} (hla : c.lt = .slice (some ⟨gl, 0, none⟩) (r.length + 1) c.lc)
    (hss : ss0.length = r.length) (hrl : w.ownsRow B 44 3 c.lt (r.length + 1) (verCells r ss0 ++ [.bool v.there, s, .int .i64 v.whole])) (hlo : ∀ k, c.lt.ownBlock = some k → o k = some (.file l 1)) (hbs : ∀ i (h : i < r.length), BytesAt w B o (.file l (i + 2)) r[i].bs (ss0.getD i undef)) (hso : ∀ k, s.ownBlock = some k → o k = some (.file l (r.length + 2)))
    {W0 : World} (hg : w.grownBy W0 s.ownBlock) {a' : Option Addr} {n' c' : Nat} (hrow : Row W0 B (v.bs ++ zs) (.slice a' n' c')) (hlies : (Value.slice a' n' c').ownBlock = s.ownBlock ∨ ∃ k, (Value.slice a' n' c').ownBlock = some k ∧ w.heap.size ≤ k)
    {fb : Nat} (hfb : w.heap.size ≤ fb) (hnf : (Value.slice a' n' c').ownBlock ≠ some fb) (hW : (W0.setCell ⟨gl, r.length * 3 + 1, none⟩ (.slice a' n' c')).grownBy W (some fb)) :
    ∃ o', DiskIn W B o' g b D M N (some l) ∧ FileAt W B o' l { c with ls := true } (f.app zs) ∧ ∀ k, k < w.heap.size → o k = none → o' k = none := by
  have hgl : o gl = some (.file l 1) := hlo gl (by rw [hla]; rfl)
  have hgs := (h.own gl (by rw [hgl]; simp)).2
  have hold := own_old (w := w) hso hlies h.own
  have h0 : ∀ k t', o k = some t' → t' ≠ .file l (r.length + 2) → W0.heap[k]? = w.heap[k]? := fun k t' e hne =>
    hg.block k (h.own k (by rw [e]; simp)).2 fun e' => by
      rw [hso k e'.symm] at e
      cases e
      exact hne rfl
  have hz0 : W0.heap.size ≤ W.heap.size := by have := hW.size; simpa [World.setCell] using this
  have h1 : ∀ k, k < W0.heap.size → k ≠ gl → k ≠ fb → W.heap[k]? = W0.heap[k]? := fun k hk hne hnb => (hW.block k (by simpa [World.setCell] using hk) (by simpa using hnb)).trans (Below.heap_setCell _ _ _ _ hne)
  have hsame : ∀ k t', o k = some t' → t' ≠ .file l (r.length + 2) → t' ≠ .file l 1 → W.heap[k]? = w.heap[k]? := fun k t' e hne hne1 =>
    (h1 k (Nat.lt_of_lt_of_le (h.own k (by rw [e]; simp)).2 hg.size) (fun e' => by subst e'; rw [hgl] at e; cases e; exact hne1 rfl) (by have := (h.own k (by rw [e]; simp)).2; omega)).trans (h0 k t' e hne)
  have hrow2 : Row W B (v.bs ++ zs) (.slice a' n' c') := hrow.keep fun k e => h1 k (hrow.own k e).2 (fun e' => by
    subst e'
    rcases hlies with hh | ⟨j, hh, h2⟩
    · rw [hh] at e
      rw [hso k e] at hgl
      cases hgl
    · rw [hh] at e
      cases e
      omega) (fun e' => by subst e'; exact hnf e)
  refine ⟨o.own (.slice a' n' c') (.file l (r.length + 2)), (h.but l).keep (fun _ e => e) (h.but l).here (fun k t' e ht => hsame k t' e (fun e' => ht l _ e' rfl) (fun e' => ht l _ e' rfl)) (fun k t' e _ => hold k t' e) (fun k e => ?_), ?_, own_free hso hlies⟩
  · unfold Tags.own at e
    by_cases e1 : (Value.slice a' n' c').ownBlock = some k
    · exact hrow2.own k e1
    · rw [if_neg e1] at e
      exact ⟨(h.own k e).1, Nat.lt_of_lt_of_le (h.own k e).2 (Nat.le_trans hg.size hz0)⟩
  · rw [Fil.app_some hl]
    have hokl := hf.ok.2
    rw [hl] at hokl
    refine ⟨hf.t, hf.wh, rfl, hf.sb.keep (fun k e => hsame k _ e (by simp) (by simp)) (fun k e => hold k _ e), ⟨hf.ok.1, fun x hx => ?_⟩, ss0 ++ [.slice a' n' c'], by simp [hss], ?_, fun k e => hold k _ (hlo k e), fun i hi => ?_⟩
    · rcases List.mem_append.1 hx with hx | hx
      · exact hokl x (List.mem_append_left _ hx)
      · simp at hx; subst hx; exact hv
    · show W.ownsRow B _ 3 c.lt (r ++ [v.app zs]).length (verCells (r ++ [v.app zs]) (ss0 ++ [.slice a' n' c']))
      rw [verCells_snoc _ _ _ _ hss, List.length_append]
      rw [hla] at hrl
      have hrl0 := ownsRow_keep (w' := W0) hrl fun k e => h0 k _ (hlo k (by rw [hla]; exact e)) (by simp)
      have hset := ownsRow_set hrl0 (r.length * 3 + 1) (.slice a' n' c')
      have hcs : (verCells r ss0 ++ [.bool v.there, s, .int .i64 v.whole]).set (r.length * 3 + 1) (.slice a' n' c') = verCells r ss0 ++ [.bool (v.app zs).there, .slice a' n' c', .int .i64 (v.app zs).whole] := by
        rw [List.set_append, verCells_len _ _ hss, if_neg (by omega), show r.length * 3 + 1 - r.length * 3 = 1 by omega]
        rfl
      rw [hcs] at hset
      rw [hla]
      exact hset.kept hW (.inr (by simp [Value.ownBlock]; omega))
    · simp only [List.length_append, List.length_cons, List.length_nil] at hi
      by_cases hin : i < r.length
      · have e1 : (r ++ [v.app zs])[i]'(by simp; omega) = r[i] := by simp [hin]
        have e2 : (ss0 ++ [Value.slice a' n' c']).getD i undef = ss0.getD i undef := by simp [List.getD, List.getElem?_append, show i < ss0.length by omega]
        show BytesAt W B _ _ ((r ++ [v.app zs])[i]'(by simp; omega)).bs _
        rw [e1, e2]
        exact (hbs i hin).keep (fun k e => hsame k _ e (by simp; omega) (by simp)) (fun k e => hold k _ e)
      · obtain rfl : i = r.length := by omega
        have e1 : (r ++ [v.app zs])[r.length]'(by simp) = v.app zs := by simp
        have e2 : (ss0 ++ [Value.slice a' n' c']).getD r.length undef = .slice a' n' c' := by simp [List.getD, ← hss]
        show BytesAt W B _ _ ((r ++ [v.app zs])[r.length]'(by simp)).bs _
        rw [e1, e2]
        exact ⟨hrow2, fun k e => by simp [Tags.own, show (Value.slice a' n' c').ownBlock = some k from e]⟩
end

end Go.Proofs.Ytchmipeehhbniaa
