/- A row with one Dep more: what the law GraphOrder makes of it. -/
import Derived.Test.YthbaldjdfehhlaaGreat13
import Derived.Maps.AppendAt
import Derived.Laws.OwnMore
import Derived.Deep.RegionHeld3
import Derived.Deep.AppendLies
namespace Go.Proofs.Ythbaldjdfehhlaa
open Go.RowKit Gr Go.Sort

/-- append in a region, whose run is known -/
theorem wp_append_run13 {P : Program} {o : Oper} {a : Act} {w w' : World} {v v' x : Value} {s y : Operand} {t : TypeId} {K : Act → World → Prop} {Q : Exit → Act → World → Prop}
    (ho : o.op = .call { callee := .builtin .append, args := #[s, y], argTypes := #[t, t] }) (hs : a.eval s = v) (hx : a.eval y = x) (hr : (Builtin.append_ #[t, t] o.type #[v, x]).run P w = .ok v' w') (hk : K (a.put o.dst v') w') : o.wp P a w K Q := by
  unfold Oper.wp execOp
  simp only [ho, resolve, invoke, builtin, Sem.run_bind, Sem.run_pure, Result.andThen_ok, List.map_toArray, List.map_cons, List.map_nil, hs, hx, hr]
  exact hk

theorem may_seen {L : Row} (h3 : mayOf L ≠ 3) (h130 : mayOf L ≠ 130) : isLong L = false ∧ hasTwice L = false := by
  unfold mayOf at h3 h130
  cases h1 : isLong L with
  | true => simp [h1] at h3
  | false =>
    cases h2 : hasTwice L with
    | true => simp [h1, h2] at h130
    | false => exact ⟨rfl, rfl⟩
theorem rowOf_set (l : List NodeV) {f : Nat} (hf : f < l.length) (u : NodeV) (d : Int) (hid : u.id = l[f].id) (hd : u.deps = l[f].deps ++ [d]) : rowOf (l.set f u) = more (rowOf l) f d := by
  unfold more
  rw [getD_at (by rw [rowOf_len]; exact hf)]
  unfold rowOf
  rw [List.map_set]
  congr 1
  simp [NodeV.node, hid, hd]

/-- the news of an append -/
theorem nodes_news {W : World} {b q : Nat} {l : List NodeV} (hc : ∀ i (h : i < l.length), b < W.heap.size ∧ W.cell? ⟨b, q + i * 2, none⟩ = some (.int .u64 l[i].id) ∧ W.cell? ⟨b, q + i * 2 + 1, none⟩ = some (.slice l[i].da l[i].deps.length l[i].dc)) :
    ∀ j u, (flatN l)[j]? = some u → W.cell? ((⟨b, q, none⟩ : Addr).add j) = some u := fun j u hu => by
  have hj : j < l.length * 2 := by have := (List.getElem?_eq_some_iff.1 hu).1; rwa [flatN_len] at this
  have hadd : ((⟨b, q, none⟩ : Addr).add j) = ⟨b, q + j, none⟩ := by
    unfold Addr.add
    split
    · subst j; rfl
    · rfl
  rw [hadd]
  have hi : j / 2 < l.length := by omega
  obtain ⟨_, h1, h2⟩ := hc (j / 2) hi
  obtain ⟨f1, f2⟩ := flatN_at hi
  rcases Nat.mod_two_eq_zero_or_one j with h | h
  · have e : j / 2 * 2 = j := by omega
    rw [e] at h1 f1
    rw [h1, ← f1, hu]
  · have e : j / 2 * 2 + 1 = j := by omega
    rw [show q + j / 2 * 2 + 1 = q + j by omega] at h2
    rw [e] at f2
    rw [h2, ← f2, hu]
theorem oneN (l : List NodeV) : ∀ u ∈ flatN l, u.oneCell' = true := fun u hu => by
  unfold flatN at hu
  obtain ⟨cs, hcs, hu⟩ := List.mem_flatten.1 hu
  obtain ⟨v, _, rfl⟩ := List.mem_map.1 hcs
  simp [encN] at hu
  rcases hu with rfl | rfl <;> rfl

/-- a copy of a row of nodes, in a block of the law's own -/
structure CopyN (g : Nat) (l : List NodeV) (W : World) : Prop where
  blk : ∃ cs, W.heap[g]? = some (.cells cs 35 (0, 0)) ∧ l.length * 2 ≤ cs.size ∧ cs.toList.take (l.length * 2) = flatN l
theorem CopyN.of {B g cap : Nat} {l : List NodeV} {W : World} (h : W.ownsRow B 35 2 (.slice (some ⟨g, 0, none⟩) l.length cap) l.length (flatN l)) : CopyN g l W ∧ B ≤ g ∧ l.length ≤ cap ∧ cap ≤ maxLen := by
  rcases h.2 with ⟨e, _⟩ | ⟨g', cap', cur, e, hB, hg, h1, h2, h3, h4⟩
  · cases e
  · cases e
    exact ⟨⟨cur, hg, by omega, h4⟩, hB, h1, h2⟩
section
variable {g f : Nat} {l : List NodeV} {W W' : World}
theorem CopyN.lt (h : CopyN g l W) : g < W.heap.size := by obtain ⟨cs, hg, _⟩ := h.blk; exact (Array.getElem?_eq_some_iff.1 hg).1
theorem CopyN.same (h : CopyN g l W) (hk : W'.heap[g]? = W.heap[g]?) : CopyN g l W' := by
  obtain ⟨cs, hg, r⟩ := h.blk
  exact ⟨cs, hk.trans hg, r⟩
theorem CopyN.at_ (h : CopyN g l W) {j : Nat} (hj : j < l.length * 2) : W.cell? ⟨g, j, none⟩ = (flatN l)[j]? ∧ W.frozen? ⟨g, j, none⟩ = false := by
  obtain ⟨cs, hg, h1, h2⟩ := h.blk
  refine ⟨?_, by simp [World.frozen?, hg]⟩
  rw [cell_of_row _ _ _ _ _ _ hg, ← h2, List.getElem?_take, if_pos hj, Array.getElem?_toList]
theorem CopyN.read (h : CopyN g l W) (he : ∀ v ∈ l, NodeF W v) : NodesF W (some ⟨g, 0, none⟩) l := by
  refine ⟨⟨g, 0, fun _ => rfl, fun i hi => ⟨h.lt, ?_, ?_⟩⟩, he⟩
  · rw [Nat.zero_add, (h.at_ (by omega)).1]; exact (flatN_at hi).1
  · rw [Nat.zero_add, (h.at_ (by omega)).1]; exact (flatN_at hi).2
/-- its Deps are set -/
theorem CopyN.set (h : CopyN g l W) (hf : f < l.length) (u : NodeV) (hid : u.id = l[f].id) : CopyN g (l.set f u) (W.setCell ⟨g, f * 2 + 1, none⟩ (.slice u.da u.deps.length u.dc)) := by
  obtain ⟨cs, hg, h1, h2⟩ := h.blk
  refine ⟨⟨cs.setIfInBounds (f * 2 + 1) (.slice u.da u.deps.length u.dc), ?_, by simpa using h1, ?_⟩⟩
  · rw [setCell_eq]
    simp [mapBlock, Array.getElem?_modify, hg, onCells]
  · rw [Array.toList_setIfInBounds, List.length_set, List.take_set, h2]
    apply List.ext_getElem?
    intro j
    by_cases hj : j < l.length * 2
    · have hi : j / 2 < (l.set f u).length := by rw [List.length_set]; omega
      have hi' : j / 2 < l.length := by omega
      obtain ⟨a1, a2⟩ := flatN_at hi
      obtain ⟨b1, b2⟩ := flatN_at hi'
      have hgs : (l.set f u)[j / 2] = if f = j / 2 then u else l[j / 2] := by rw [List.getElem_set]
      rw [hgs] at a1 a2
      have hfl : (flatN l).length = l.length * 2 := flatN_len l
      rw [List.getElem?_set]
      rcases Nat.mod_two_eq_zero_or_one j with e | e
      · have ej : j / 2 * 2 = j := by omega
        rw [ej] at a1 b1
        rw [if_neg (by omega), b1, a1]
        split
        · rename_i e2; subst e2; rw [hid]
        · rfl
      · have ej : j / 2 * 2 + 1 = j := by omega
        rw [ej] at a2 b2
        rw [a2]
        by_cases e2 : f = j / 2
        · rw [if_pos (by omega), if_pos (by omega), if_pos e2]
        · rw [if_neg (by omega), b2, if_neg e2]
    · rw [List.getElem?_eq_none (by rw [List.length_set, flatN_len]; omega), List.getElem?_eq_none (by rw [flatN_len, List.length_set]; omega)]
end

/-- append to a row of the call's own, of any row of numbers: where what comes out lies -/
theorem run_appU {W : World} {B : Nat} {v : Value} {xs : List Int} (h : RowU B v xs W) (hl : xs.length ≤ 100000) (hB : B ≤ W.heap.size) {ao : Option Addr} {zs : List Int} {c : Nat} (hz : NumsF W ao zs) (hzl : zs.length ≤ 100000) (hn : ao = none → zs.length = 0 ∧ c = 0) :
    ∃ v' W', (Builtin.append_ #[26, 26] 26 #[v, .slice ao zs.length c]).run Try.prog W = .ok v' W' ∧ RowU B v' (xs ++ zs) W' ∧ W.grownBy W' v.ownBlock ∧ (v'.ownBlock = v.ownBlock ∨ v'.ownBlock = some W.heap.size) := by
  obtain ⟨i0, hi, hz0, hz1, hz2⟩ := info_parts infoU64
  cases ao with
  | none =>
    obtain ⟨h0, rfl⟩ := hn rfl
    obtain rfl := List.eq_nil_of_length_eq_zero h0
    exact ⟨v, W, run_append_owned_none (P := Try.prog) W B 26 26 23 i0 1 Try.underlying26 hi v xs.length _ h.own, by simpa using h, ⟨rfl, rfl, rfl, Nat.le_refl _, fun _ _ _ => rfl⟩, .inl rfl⟩
  | some ad =>
    obtain ⟨v', W', hrun, hown, hg, _, hlies⟩ := run_append_own_at (P := Try.prog) W B 26 26 23 i0 (.int .u64 0) 1 8 Try.underlying26 hi hz0 hz1 hz2 rfl (by decide) v xs.length _ h.own ad zs.length c (zs.map encU) (by simp) (fun j u hu => by
      obtain ⟨⟨g, q, ha, hc⟩, _⟩ := hz
      have hj : j < zs.length := by have := (List.getElem?_eq_some_iff.1 hu).1; simpa using this
      have e2 := ha (by intro e0; subst e0; simp at hj)
      cases e2
      have hadd : ((⟨g, q, none⟩ : Addr).add j) = ⟨g, q + j, none⟩ := by
        unfold Addr.add
        split
        · subst j; rfl
        · rfl
      rw [hadd, (hc j hj).2, ← hu]
      simp [hj, encU]) (oneU zs) (by unfold maxLen; omega) (by omega) hB
    exact ⟨v', W', hrun, RowU.join hown, hg, hlies⟩

/-- what the region makes behind u0: the row v of the numbers xs; literals -/
structure A29 (u0 W : World) (v : Value) (xs : List Int) (L : List (Nat × Int)) : Prop where
  bel : Below u0.heap.size u0 W
  row : RowU u0.heap.size v xs W
  src : ∀ s ∈ L, W.cell? ⟨s.1, 0, none⟩ = some (.int .u64 s.2) ∧ v.ownBlock ≠ some s.1
section
variable {u0 W : World} {v : Value} {xs : List Int} {L : List (Nat × Int)}
theorem A29.start (u0 : World) : A29 u0 u0 (.slice none 0 0) [] [] := ⟨Below.refl _ _, RowU.nil _ _, fun s hs => by cases hs⟩
theorem A29.empty (h : A29 u0 W (.slice none 0 0) [] L) : A29 u0 (W.alloc (.cells #[] 23)) (.slice (some ⟨W.heap.size, 0, none⟩) 0 0) [] L := by
  have hb : Below W.heap.size W (W.alloc (.cells #[] 23)) := (Below.refl _ _).alloc (Nat.le_refl _) _
  refine ⟨h.bel.trans (hb.mono h.bel.size), ⟨World.ownsRow_lit W #[] 0 h.bel.size (Nat.zero_le _) rfl⟩, fun s hs => ?_⟩
  obtain ⟨h1, _⟩ := h.src s hs
  refine ⟨stays hb h1, fun e => ?_⟩
  have h2 : s.1 < W.heap.size := World.block_lt_of_cell? W _ h1
  have e2 : W.heap.size = s.1 := by simpa [Value.ownBlock] using e
  omega
theorem A29.lit (h : A29 u0 W v xs L) (d : Int) : A29 u0 (W.alloc (.cells #[.int .u64 d] 23)) v xs ((W.heap.size, d) :: L) := by
  have hb : Below W.heap.size W (W.alloc (.cells #[.int .u64 d] 23)) := (Below.refl _ _).alloc (Nat.le_refl _) _
  refine ⟨h.bel.trans (hb.mono h.bel.size), h.row.below hb, fun s hs => ?_⟩
  rcases List.mem_cons.1 hs with rfl | hs
  · exact ⟨(Boxed.new W 23 (.int .u64 d)).cell, fun e => by have := (h.row.lt _ e).2; simp at this⟩
  · obtain ⟨h1, h2⟩ := h.src s hs
    exact ⟨stays hb h1, h2⟩
theorem A29.app (h : A29 u0 W v xs L) (hl : xs.length ≤ 100000) {ao : Option Addr} {zs : List Int} {c : Nat} (hz : NumsF W ao zs) (hzl : zs.length ≤ 100000) (hn : ao = none → zs.length = 0 ∧ c = 0) :
    ∃ v' W', (Builtin.append_ #[26, 26] 26 #[v, .slice ao zs.length c]).run Try.prog W = .ok v' W' ∧ A29 u0 W' v' (xs ++ zs) L := by
  obtain ⟨v', W', hrun, hrow, hg, hlies⟩ := run_appU h.row hl h.bel.size hz hzl hn
  refine ⟨v', W', hrun, h.bel.grown hg h.bel.size fun k e => (h.row.lt k e).1, hrow, fun s hs => ?_⟩
  obtain ⟨h1, h2⟩ := h.src s hs
  have hlt : s.1 < W.heap.size := World.block_lt_of_cell? W _ h1
  refine ⟨(World.cell?_of_block (w := W) (a := ⟨s.1, 0, none⟩) (hg.block _ hlt fun e => h2 e.symm)).trans h1, fun e => ?_⟩
  rcases hlies with e2 | e2
  · exact h2 (by rw [← e2]; exact e)
  · rw [e2] at e
    have e3 := Option.some.inj e
    omega
theorem A29.app1 (h : A29 u0 W v xs L) (hl : xs.length ≤ 100000) {s : Nat} {d : Int} (hs : (s, d) ∈ L) (hd : U64 d) :
    ∃ v' W', (Builtin.append_ #[26, 26] 26 #[v, .slice (some ⟨s, 0, none⟩) 1 1]).run Try.prog W = .ok v' W' ∧ A29 u0 W' v' (xs ++ [d]) L := by
  have hc := (h.src _ hs).1
  have hz : NumsF W (some ⟨s, 0, none⟩) [d] := ⟨⟨s, 0, fun _ => rfl, fun i hi => by
    obtain rfl : i = 0 := by simp at hi; omega
    exact ⟨World.block_lt_of_cell? W _ hc, hc⟩⟩, fun x hx => by simp at hx; subst hx; exact hd⟩
  have k := h.app (c := 1) hl hz (by simp) (fun e => by cases e)
  rw [List.length_singleton] at k
  exact k
/-- the row with one Dep more, as it is read -/
theorem more_nodes {wd u0 u4 : World} {g2 f : Nat} {l : List NodeV} {v : NodeV} {d : Int} {ma : Option Addr} {mc : Nat} {L : List (Nat × Int)} (hcp : CopyN g2 l u0) (hA : A29 u0 u4 (.slice ma (v.deps ++ [d]).length mc) (v.deps ++ [d]) L)
    (hb : Below wd.heap.size wd u0) (he : ∀ v ∈ l, NodeF wd v) (hfl : f < l.length) (hv : l[f] = v) (hd : U64 d) (hg : wd.heap.size ≤ g2) :
    NodesF (u4.setCell ⟨g2, f * 2 + 1, none⟩ (.slice ma (v.deps ++ [d]).length mc)) (some ⟨g2, 0, none⟩) (l.set f ⟨v.id, ma, mc, v.deps ++ [d]⟩) ∧ Below wd.heap.size wd (u4.setCell ⟨g2, f * 2 + 1, none⟩ (.slice ma (v.deps ++ [d]).length mc)) := by
  have hb4 : Below wd.heap.size wd u4 := hb.trans (hA.bel.mono hb.size)
  have hb5 : Below wd.heap.size wd (u4.setCell ⟨g2, f * 2 + 1, none⟩ (.slice ma (v.deps ++ [d]).length mc)) := hb4.setCell (p := ⟨g2, f * 2 + 1, none⟩) hg _
  have hvf := he v (hv ▸ List.getElem_mem hfl)
  have hfit : ∀ x ∈ v.deps ++ [d], U64 x := fun x hx => by
    rcases List.mem_append.1 hx with hx | hx
    · exact hvf.deps.fit x hx
    · simp at hx; subst hx; exact hd
  have hlt := hcp.lt
  have hrow : RowU u0.heap.size (.slice ma (v.deps ++ [d]).length mc) (v.deps ++ [d]) (u4.setCell ⟨g2, f * 2 + 1, none⟩ (.slice ma (v.deps ++ [d]).length mc)) :=
    ⟨own_same hA.row.own fun g cs fr hg _ => Below.heap_setCell _ _ _ _ (by show g ≠ g2; omega)⟩
  obtain ⟨h1, h2, h3⟩ := hrow.read hfit
  refine ⟨((hcp.same (hA.bel.block g2 hlt)).set hfl ⟨v.id, ma, mc, v.deps ++ [d]⟩ (by rw [hv])).read fun x hx => ?_, hb5⟩
  rcases List.mem_or_eq_of_mem_set hx with hx | rfl
  · exact (he x hx).below hb5
  · exact ⟨hvf.id, h1, h2, h3⟩
end

end Go.Proofs.Ythbaldjdfehhlaa
