/- TokenRise: what the law's rows say of the tops. -/
import Derived.Test.YtjpbniajhkindaaBkB
namespace Go.Proofs.Ytjpbniajhkindaa
open Go.RowKit Go.Maps Go.Sort Dsk Tok

/-- jobs and their tokens, as the law keeps them -/
structure Mirror (f : Nat → Nat) (J T : List Nat) : Prop where
  nodup : J.Nodup
  len : T.length = J.length
  mem : ∀ j, j ∈ J ↔ 0 < f j
  at_ : ∀ i (h : i < J.length), f J[i] = T[i]'(by rw [len]; exact h)

theorem Mirror.start : Mirror (fun _ => 0) [] [] := ⟨List.nodup_nil, rfl, fun j => by simp, fun i h => by simp at h⟩
theorem Mirror.count {f : Nat → Nat} {J T K : List Nat} (h : Mirror f J T) (hK : JobsOf f K) : K.length = J.length := by
  have hp : K.Perm J := (List.perm_ext_iff_of_nodup (jobs_nodup hK) h.nodup).2 fun j => (hK.mem j).trans (h.mem j).symm
  exact hp.length_eq
theorem Mirror.more {f : Nat → Nat} {J T : List Nat} (h : Mirror f J T) {j t : Nat} (hj : j ∉ J) (ht : 0 < t) : Mirror (note f j t) (J ++ [j]) (T ++ [t]) := by
  have h0 : f j = 0 := by
    have := mt (h.mem j).2 hj
    omega
  have hn := note_new f (j := j) (t := t) (by omega)
  refine ⟨List.nodup_append.2 ⟨h.nodup, by simp, fun a ha b hb => by simp at hb; subst hb; exact fun e => hj (e ▸ ha)⟩, by simp [h.len], fun i => ?_, fun i hi => ?_⟩
  · rw [hn]
    by_cases he : i = j
    · subst he; simp [ht]
    · simp [he, h.mem i]
  · rw [hn]
    by_cases hl : i < J.length
    · have hne : J[i] ≠ j := fun e => hj (e ▸ List.getElem_mem hl)
      rw [List.getElem_append_left hl, List.getElem_append_left (by rw [h.len]; exact hl)]
      simp only [hne, if_false]
      exact h.at_ i hl
    · have hl2 : i = J.length := by simp at hi; omega
      subst hl2
      rw [List.getElem_append_right (Nat.le_refl _), List.getElem_append_right (by rw [h.len]; exact Nat.le_refl _)]
      simp
theorem Mirror.put {f : Nat → Nat} {J T : List Nat} (h : Mirror f J T) {a t : Nat} (ha : a < J.length) (ht : f J[a] < t) : Mirror (note f J[a] t) J (T.set a t) := by
  have hn := note_new f (j := J[a]) (t := t) ht
  refine ⟨h.nodup, by simp [h.len], fun i => ?_, fun i hi => ?_⟩
  · rw [hn]
    by_cases he : i = J[a]
    · subst he; simp; omega
    · simp [he, h.mem i]
  · rw [hn, List.getElem_set]
    by_cases he : a = i
    · subst he; simp
    · have hne : J[i] ≠ J[a] := fun e => he (by
        have h1 := List.Nodup.idxOf_getElem h.nodup i hi
        have h2 := List.Nodup.idxOf_getElem h.nodup a ha
        rw [e, h2] at h1
        exact h1)
      simp only [hne, he, if_false]
      exact h.at_ i hi

/-- where a job stands among the first k -/
def pos (J : List Nat) (j k : Nat) : Int := if j ∈ J.take k then (J.idxOf j : Int) else -1
theorem pos_zero (J : List Nat) (j : Nat) : pos J j 0 = -1 := by simp [pos]
theorem pos_here {J : List Nat} (hn : J.Nodup) {k : Nat} (hk : k < J.length) : pos J J[k] (k + 1) = k := by
  have : J[k] ∈ J.take (k + 1) := by
    rw [List.take_succ_eq_append_getElem hk]
    exact List.mem_append_right _ (List.mem_singleton.2 rfl)
  rw [pos, if_pos this, hn.idxOf_getElem k hk]
theorem pos_other {J : List Nat} {j k : Nat} (hk : k < J.length) (h : J[k] ≠ j) : pos J j (k + 1) = pos J j k := by
  have : j ∈ J.take (k + 1) ↔ j ∈ J.take k := by
    rw [List.take_succ_eq_append_getElem hk]
    simp only [List.mem_append, List.mem_singleton]
    exact ⟨fun h' => h'.resolve_right fun e => h e.symm, .inl⟩
  unfold pos
  by_cases h2 : j ∈ J.take k
  · rw [if_pos h2, if_pos (this.2 h2)]
  · rw [if_neg h2, if_neg (fun e => h2 (this.1 e))]
theorem pos_all (J : List Nat) (j : Nat) : (j ∉ J ∧ pos J j J.length = -1) ∨ ∃ a, ∃ h : a < J.length, J[a] = j ∧ pos J j J.length = (a : Int) := by
  by_cases h : j ∈ J
  · have hl := List.idxOf_lt_length_of_mem h
    exact .inr ⟨J.idxOf j, hl, List.getElem_idxOf hl, by rw [pos, List.take_length, if_pos h]⟩
  · exact .inl ⟨h, by rw [pos, List.take_length, if_neg h]⟩
theorem pos_range (J : List Nat) (j k : Nat) : -1 ≤ pos J j k ∧ pos J j k ≤ J.length := by
  unfold pos
  split
  · have := List.idxOf_le_length (a := j) (l := J)
    omega
  · omega

/-- a row of numbers of the law's own -/
structure NumRow (w : World) (B : Nat) (o : Tags) (v : Value) (zs : List Nat) : Prop where
  row : w.ownsRow B 31 1 v zs.length (zs.map fun z : Nat => .int .u64 (z : Int))
  free : ∀ k, v.ownBlock = some k → o k = none
theorem NumRow.nil (w : World) (B : Nat) (o : Tags) : NumRow w B o (.slice none 0 0) [] := ⟨World.ownsRow_nil _ _ _ _, fun k e => by cases e⟩
theorem NumRow.eff {w w' : World} {B b : Nat} {o o' : Tags} {v : Value} {zs : List Nat} (h : NumRow w B o v zs) (he : Eff o o' b w w') (hb : ∃ es c, w.heap[b]? = some (.map es c)) : NumRow w' B o' v zs :=
  ⟨ownsRow_keep h.row fun k e => he.block k (World.ownsRow.lt h.row k e).2 (h.free k e) (fun e' => by
    obtain ⟨es, c, hb⟩ := hb
    rcases h.row.2 with ⟨he, _⟩ | ⟨g, cap, cur, he, _, hg, _⟩
    · rw [he] at e; cases e
    · rw [he] at e
      obtain rfl : g = k := by simpa [Value.ownBlock] using e
      rw [e', hb] at hg; cases hg), fun k e => he.free k (World.ownsRow.lt h.row k e).2 (h.free k e)⟩
theorem NumRow.below {w w' : World} {B : Nat} {o : Tags} {v : Value} {zs : List Nat} (h : NumRow w B o v zs) (hb : Below w.heap.size w w') : NumRow w' B o v zs :=
  ⟨ownsRow_keep h.row fun k e => hb.block k (World.ownsRow.lt h.row k e).2, h.free⟩
theorem NumRow.shape {w : World} {B : Nat} {o : Tags} {v : Value} {zs : List Nat} (h : NumRow w B o v zs) : ∃ a c, v = .slice a zs.length c ∧ ∀ i (hi : i < zs.length), ∃ g, a = some ⟨g, 0, none⟩ ∧ w.cell? ⟨g, i, none⟩ = some (.int .u64 (zs[i] : Int)) ∧ w.frozen? ⟨g, i, none⟩ = false := by
  rcases h.row.2 with ⟨he, h0⟩ | ⟨g, cap, cur, he, hB, hg, r1, r2, r3, r4⟩
  · subst he
    refine ⟨none, 0, by rw [h0], fun i hi => by omega⟩
  · subst he
    refine ⟨_, cap, rfl, fun i hi => ⟨g, rfl, ?_, frozen_row hg⟩⟩
    rw [cell_of_row _ _ i _ _ _ hg]
    have h1 : (cur.toList.take (zs.length * 1))[i]? = (zs.map fun z : Nat => Value.int .u64 (z : Int))[i]? := by rw [r4]
    rw [Nat.mul_one, List.getElem?_take_of_lt hi] at h1
    rw [← Array.getElem?_toList, h1, List.getElem?_map, List.getElem?_eq_getElem hi]
    rfl
/-- a number is written into the row -/
theorem NumRow.put {w : World} {B g c : Nat} {o : Tags} {zs : List Nat} (h : NumRow w B o (.slice (some ⟨g, 0, none⟩) zs.length c) zs) (i t : Nat) (_ : i < zs.length) : NumRow (w.setCell ⟨g, i, none⟩ (.int .u64 (t : Int))) B o (.slice (some ⟨g, 0, none⟩) (zs.set i t).length c) (zs.set i t) := by
  rcases h.row.2 with ⟨he, h0⟩ | ⟨g', cap, cur, he, hB, hg, r1, r2, r3, r4⟩
  · cases he
  · cases he
    rw [List.length_set]
    refine ⟨⟨by simp, .inr ⟨g, c, _, by rw [List.length_set], hB, cells_set hg i _, by rw [List.length_set]; exact r1, r2, by simpa using r3, ?_⟩⟩, h.free⟩
    rw [List.length_set, Nat.mul_one] at *
    rw [Array.toList_setIfInBounds, List.take_set, r4, List.map_set]
theorem NumRow.other {w : World} {B : Nat} {o : Tags} {v : Value} {zs : List Nat} (h : NumRow w B o v zs) (x : Addr) (u : Value) (hne : v.ownBlock ≠ some x.block) : NumRow (w.setCell x u) B o v zs :=
  ⟨ownsRow_keep h.row fun k e => Below.heap_setCell _ _ _ _ (fun e' => hne (by rw [← e']; exact e)), h.free⟩

/-- append in a region, whose run is known -/
theorem wp_append_runU {P : Program} {o : Oper} {a : Act} {w w' : World} {v v' x : Value} {s y : Operand} {t : TypeId} {K : Act → World → Prop} {Q : Exit → Act → World → Prop}
    (ho : o.op = .call { callee := .builtin .append, args := #[s, y], argTypes := #[t, t] }) (hs : a.eval s = v) (hx : a.eval y = x) (hr : (Builtin.append_ #[t, t] o.type #[v, x]).run P w = .ok v' w') (hk : K (a.put o.dst v') w') : o.wp P a w K Q := by
  unfold Oper.wp execOp
  simp only [ho, resolve, invoke, builtin, Sem.run_bind, Sem.run_pure, Result.andThen_ok, List.map_toArray, List.map_cons, List.map_nil, hs, hx, hr]
  exact hk

theorem Tk.other {w w' : World} {B g k b n r : Nat} {o : Tags} {rs : List (Nat × Nat)} {f : Nat → Nat} (h : Tk w B g o rs k b f n) (hg : w.grownBy w' (some r)) (ho : o r = none) (hr : ∃ cs fr, w.heap[r]? = some (.cells cs 31 fr)) : Tk w' B g o rs k b f n := by
  obtain ⟨M, N, h⟩ := h
  obtain ⟨cs, fr, hr⟩ := hr
  have hon := Only.of_grown hg
  have hk : k ≠ r := fun e => by
    have h1 := h.book.blk
    rw [e, hr] at h1
    simp at h1
  have hb : b ≠ r := fun e => by
    obtain ⟨es, c, h1⟩ := h.book.tops.isMap
    rw [e, hr] at h1
    cases h1
  exact ⟨M, N, { h with disk := h.disk.only hon ho, hB := Nat.le_trans h.hB hg.size, book := h.book.same (hg.block k h.book.lt_size (by simpa using hk)) (hg.block b h.book.tops.lt_size (by simpa using hb)) }⟩

/-- the law's state, with numbers in blocks of their own that are about to be appended -/
structure Q32 (w1 W : World) (B g : Nat) (o : Tags) (rs : List (Nat × Nat)) (k b : Nat) (f : Nat → Nat) (n : Nat) (vj vt : Value) (J T : List Nat) (x : Nat) (cs : Array Value) (L : List (Nat × Nat)) : Prop where
  tk : Tk W B g o rs k b f n
  rj : NumRow W B o vj J
  rt : NumRow W B o vt T
  apart : ∀ y, vj.ownBlock = some y → vt.ownBlock ≠ some y
  hx : W.heap[x]? = some (.cells cs 35 (0, 0))
  bel : Below w1.heap.size w1 W
  hB : w1.heap.size ≤ B
  src : ∀ s ∈ L, W.cell? ⟨s.1, 0, none⟩ = some (.int .u64 (s.2 : Int)) ∧ vj.ownBlock ≠ some s.1 ∧ vt.ownBlock ≠ some s.1

section
variable {w1 W : World} {B g k b n x : Nat} {o : Tags} {rs : List (Nat × Nat)} {f : Nat → Nat} {vj vt : Value} {J T : List Nat} {cs : Array Value} {L : List (Nat × Nat)}
theorem NumRow.block_cells {w : World} {v : Value} {zs : List Nat} (h : NumRow w B o v zs) {r : Nat} (hr : v.ownBlock = some r) : (∃ cs fr, w.heap[r]? = some (.cells cs 31 fr)) ∧ B ≤ r ∧ r < w.heap.size := by
  rcases h.row.2 with ⟨he, _⟩ | ⟨g', cap, cur, he, hB, hg, _⟩
  · rw [he] at hr; cases hr
  · rw [he] at hr
    obtain rfl : g' = r := by simpa [Value.ownBlock] using hr
    exact ⟨⟨_, _, hg⟩, hB, lt_of_block hg⟩
theorem Q32.drew (h : Q32 w1 W B g o rs k b f n vj vt J T x cs L) : Q32 w1 W.drew B g o rs k b f n vj vt J T x cs L := by
  have hb : Below W.heap.size W W.drew := (Below.refl _ _).drew
  exact ⟨h.tk.below hb, h.rj.below hb, h.rt.below hb, h.apart, h.hx, h.bel.drew, h.hB, h.src⟩
theorem Q32.made (h : Q32 w1 W B g o rs k b f n vj vt J T x cs L) (t : Nat) : Q32 w1 (W.alloc (.cells #[.int .u64 (t : Int)] 31)) B g o rs k b f n vj vt J T x cs ((W.heap.size, t) :: L) := by
  have hb : Below W.heap.size W (W.alloc (.cells #[.int .u64 (t : Int)] 31)) := (Below.refl _ _).alloc (Nat.le_refl _) _
  refine ⟨h.tk.below hb, h.rj.below hb, h.rt.below hb, h.apart, (hb.block _ (lt_of_block h.hx)).trans h.hx, h.bel.trans (hb.mono h.bel.size), h.hB, fun s hs => ?_⟩
  rcases List.mem_cons.1 hs with rfl | hs
  · refine ⟨by rw [World.cell?_alloc_at _ _ _ _ rfl]; rfl, fun e => ?_, fun e => ?_⟩
    · have := (h.rj.block_cells e).2.2; simp at this
    · have := (h.rt.block_cells e).2.2; simp at this
  · obtain ⟨h1, h2, h3⟩ := h.src s hs
    exact ⟨(hb.cell (p := ⟨s.1, 0, none⟩) (World.block_lt_of_cell? W _ h1)).trans h1, h2, h3⟩
theorem cell_grown {w w' : World} {row : Option Nat} {s : Nat} {u : Value} (hg : w.grownBy w' row) (h : w.cell? ⟨s, 0, none⟩ = some u) (hne : row ≠ some s) : w'.cell? ⟨s, 0, none⟩ = some u := by
  have hlt := World.block_lt_of_cell? w _ h
  rw [← h]
  unfold World.cell?
  rw [hg.block s hlt (fun e => hne e.symm)]

theorem Q32.app1 (h : Q32 w1 W B g o rs k b f n vj vt J T x cs L) {s j : Nat} (hs : (s, j) ∈ L) (hl : J.length ≤ 100) :
    ∃ v' W', (Builtin.append_ #[30, 30] 30 #[vj, .slice (some ⟨s, 0, none⟩) 1 1]).run Try.prog W = .ok v' W' ∧ Q32 w1 W' B g o rs k b f n v' vt (J ++ [j]) T x cs L := by
  obtain ⟨i0, hi, hz0, hz1, hz2⟩ := info_parts infoU64
  obtain ⟨hc, _, _⟩ := h.src _ hs
  have hBW := h.tk.lt.2.2.2
  obtain ⟨v', W', hrun, hown, hg, hlies⟩ := run_append_lies (P := Try.prog) W B 30 30 31 i0 (.int .u64 0) 1 8 Try.underlying30 hi hz0 hz1 hz2 rfl (by decide) vj J.length _ h.rj.row (some ⟨s, 0, none⟩) 1 1 [.int .u64 (j : Int)] rfl (fun e => by cases e) (fun ad e i u hu => by
    cases e
    match i, hu with
    | 0, hu => simp at hu; subst hu; rw [show ((⟨s, 0, none⟩ : Addr).add 0) = ⟨s, 0, none⟩ from rfl]; exact hc) (fun u hu => by simp at hu; subst hu; rfl) (by unfold maxLen; omega) (by omega) hBW
  have hgs := hg.size
  have hnew : ∀ y, v'.ownBlock = some y → vj.ownBlock = some y ∨ y = W.heap.size := fun y hy => by
    rcases hlies with e | e
    · exact .inl (by rw [← e]; exact hy)
    · rw [e] at hy; exact .inr (by simpa using hy.symm)
  refine ⟨v', W', hrun, ?_⟩
  have hother : ∀ {q : Nat}, vj.ownBlock ≠ some q → q < W.heap.size → W'.heap[q]? = W.heap[q]? := fun hq hl => hg.block _ hl (fun e => hq e.symm)
  have htk : Tk W' B g o rs k b f n := by
    cases hv : vj.ownBlock with
    | none =>
      rw [hv] at hg
      exact h.tk.below ⟨hg.os, hg.tape, hg.output, hg.size, fun i hi => hg.block i hi (by simp)⟩
    | some r =>
      rw [hv] at hg
      exact h.tk.other hg (h.rj.free r hv) (h.rj.block_cells hv).1
  have hxl := lt_of_block h.hx
  refine ⟨htk, ⟨by simpa using hown, fun y hy => ?_⟩, ⟨ownsRow_keep h.rt.row fun q e => hother (fun e' => h.apart q e' e) (World.ownsRow.lt h.rt.row q e).2, h.rt.free⟩, fun y hy e => ?_, ?_, h.bel.grown hg h.bel.size (fun q e => Nat.le_trans h.hB (h.rj.block_cells e).2.1), h.hB, fun s' hs' => ?_⟩
  · rcases hnew y hy with e | rfl
    · exact h.rj.free y e
    · cases h' : o W.heap.size with
      | none => rfl
      | some z => have h1 := (h.tk.owns _ (by rw [h']; simp)).2; omega
  · rcases hnew y hy with e' | rfl
    · exact h.apart y e' e
    · have := (h.rt.block_cells e).2.2; omega
  · rw [hother (fun e => ?_) hxl]
    · exact h.hx
    · obtain ⟨cs', fr, h1⟩ := (h.rj.block_cells e).1
      rw [h.hx] at h1; simp at h1
  · obtain ⟨h1, h2, h3⟩ := h.src s' hs'
    have hlt := World.block_lt_of_cell? W _ h1
    refine ⟨cell_grown hg h1 h2, fun e => ?_, h3⟩
    rcases hnew _ e with e' | e'
    · exact h2 e'
    · have : s'.1 < W.heap.size := hlt
      omega
theorem Q32.app2 (h : Q32 w1 W B g o rs k b f n vj vt J T x cs L) {s t : Nat} (hs : (s, t) ∈ L) (hl : T.length ≤ 100) :
    ∃ v' W', (Builtin.append_ #[30, 30] 30 #[vt, .slice (some ⟨s, 0, none⟩) 1 1]).run Try.prog W = .ok v' W' ∧ Q32 w1 W' B g o rs k b f n vj v' J (T ++ [t]) x cs L := by
  have hsw : Q32 w1 W B g o rs k b f n vt vj T J x cs L := ⟨h.tk, h.rt, h.rj, fun y hy e => h.apart y e hy, h.hx, h.bel, h.hB, fun s hs => ⟨(h.src s hs).1, (h.src s hs).2.2, (h.src s hs).2.1⟩⟩
  obtain ⟨v', W', h1, h2⟩ := hsw.app1 hs hl
  exact ⟨v', W', h1, h2.tk, h2.rt, h2.rj, fun y hy e => h2.apart y e hy, h2.hx, h2.bel, h2.hB, fun s hs => ⟨(h2.src s hs).1, (h2.src s hs).2.2, (h2.src s hs).2.1⟩⟩
theorem Q32.fields (h : Q32 w1 W B g o rs k b f n vj vt J T x cs L) (i : Nat) : W.cell? ⟨x, i, none⟩ = cs[i]? := by
  have := cell_of_row _ _ i _ _ _ h.hx
  rw [this]
end

end Go.Proofs.Ytjpbniajhkindaa
