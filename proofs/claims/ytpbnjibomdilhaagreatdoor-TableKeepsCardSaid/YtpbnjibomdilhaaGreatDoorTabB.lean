/- A table of jobs as it lies in memory. -/
import Derived.Test.YtpbnjibomdilhaaGreatDoorTabM
import Derived.Test.YtpbnjibomdilhaaGreatDoorGKeysU
import Derived.Maps.OwnSet
import Derived.Maps.RangeWalk
import Derived.Maps.AppendAt
namespace Go.Proofs.YtpbnjibomdilhaaGreatDoor.Job
open Go.RowKit Go.Maps

/-- a job as it is read: its numbers' bounds, its Deps -/
structure JF (w : World) (j : J) : Prop where
  id : U64 j.id
  ver : U64 j.ver
  fit : ∀ x ∈ j.deps, U64 x
  vals : Vals w j.da (j.deps.map uv)
  none_ : j.da = none → j.deps.length = 0 ∧ j.dc = 0
  cap : j.deps.length ≤ j.dc
  big : j.dc ≤ maxLen
theorem JF.below {w w' : World} {j : J} (h : JF w j) (hb : Below w.heap.size w w') : JF w' j := ⟨h.id, h.ver, h.fit, h.vals.below hb, h.none_, h.cap, h.big⟩
theorem JF.kept {w w' : World} {j : J} (h : JF w j) (hs : w.heap.size ≤ w'.heap.size) (hb : ∀ x, j.da = some x → x.block < w.heap.size → w'.heap[x.block]? = w.heap[x.block]?) : JF w' j := ⟨h.id, h.ver, h.fit, h.vals.kept hs hb, h.none_, h.cap, h.big⟩

def emp : ByteArray := ⟨#[]⟩
def zeroJ : J := ⟨0, emp, emp, 0, 0, 0, 0, 0, none, 0, [], false, 0, 0⟩
abbrev zeroC : Array Value := #[.int .u64 0, .string (ByteArray.mk #[]), .string (ByteArray.mk #[]), .int .i64 0, .int .i64 0, .int .i64 0, .int .i64 0, .int .i64 0, .slice none 0 0, .bool false, .int .u64 0, .int .i64 0]
abbrev J.cs (j : J) : Array Value := #[.int .u64 j.id, .string j.name, .string j.expr, .int .i64 j.pol, .int .i64 j.gra, .int .i64 j.lim, .int .i64 j.ret, .int .i64 j.tim, .slice j.da j.deps.length j.dc, .bool j.pau, .int .u64 j.ver, .int .i64 j.seen]
theorem zeroC_eq : zeroJ.cells = zeroC := rfl
def J.at (j : J) (a : Option Addr) (c : Nat) : J := { j with da := a, dc := c }
theorem infoJob : (Tryz.prog.info? 29).map (fun i => (i.zero, i.size, i.bytes)) = some (some zeroJ.val, 12, 128) := by kernel_rfl
theorem zero_job (w : World) : (zeroValue 29).run Tryz.prog w = .ok zeroJ.val w := by kernel_rfl

def jobElem (v : Value) : Option (DataW Value × List MemPlace) :=
  match v with
  | .agg cs => some (.held (.agg cs), [])
  | _ => none
theorem jobElem_mk (cs : Array Value) : jobElem (.agg cs) = some (.held (.agg cs), []) := rfl
theorem jobElem_inv {v : Value} {y : DataW Value × List MemPlace} (h : jobElem v = some y) : ∃ cs, v = .agg cs ∧ y = (.held (.agg cs), []) := by
  unfold jobElem at h
  split at h
  · rename_i cs; cases h; exact ⟨cs, rfl, rfl⟩
  · cases h

theorem wfU {x : Int} (h : U64 x) : (Lit.int .u64 x).wf = true := by
  obtain ⟨h1, h2⟩ := h
  simp [Lit.wf, IntKind.min, IntKind.max, IntKind.signed, IntKind.bits]; omega
theorem keyOfU {x : Int} (h : U64 x) : keyOf Tryz.prog 26 (.int .u64 x) = some (.int .u64 x) := by
  simp [keyOf, Tryz.underlying26, mapKey, wfU h]
theorem isKeyU (x : Int) : WideAt.IsKeyLit (.int .u64 x) := trivial
theorem exactJ {w : World} {b n : Nat} {D : DataW Value} {P : Program} {k : TypeId} {R : Value → Option (DataW Value × List MemPlace)} (h : w.ownsMap P k R b n D) : w.ownsMap P k R b (Maps.size D) D := by
  obtain ⟨es, clock, hb, F, _, rfl⟩ := h
  exact ⟨es, clock, hb, F, by simp [Maps.size, length_sorted], rfl⟩

/-- D holds just the jobs L -/
structure Holds1 (D : DataW Value) (L : List J) : Prop where
  has : ∀ x : Int, Maps.has D (.int .u64 x) = (findJ L x).isSome
  at_ : ∀ (x : Int) (j : J), findJ L x = some j → ∀ zd, D.atKey (.int .u64 x) zd = .held j.val
  size : Maps.size D = L.length

/-- what a call leaves: but for two blocks all stands -/
structure Eff (k b : Nat) (w w' : World) : Prop where
  os : w'.os = w.os
  tape : w'.tape = w.tape
  output : w'.output = w.output
  size : w.heap.size ≤ w'.heap.size
  block : ∀ i, i < w.heap.size → i ≠ k → i ≠ b → w'.heap[i]? = w.heap[i]?
theorem Eff.refl (k b : Nat) (w : World) : Eff k b w w := ⟨rfl, rfl, rfl, Nat.le_refl _, fun _ _ _ _ => rfl⟩
theorem Eff.trans {k b : Nat} {u v w : World} (h : Eff k b u v) (g : Eff k b v w) : Eff k b u w :=
  ⟨g.os.trans h.os, g.tape.trans h.tape, g.output.trans h.output, Nat.le_trans h.size g.size, fun i hi h1 h2 => (g.block i (Nat.lt_of_lt_of_le hi h.size) h1 h2).trans (h.block i hi h1 h2)⟩
theorem Eff.of_below {k b : Nat} {w w' : World} (h : Below w.heap.size w w') : Eff k b w w' := ⟨h.os, h.tape, h.output, h.size, fun i hi _ _ => h.block i hi⟩
theorem Eff.of_grown {k b : Nat} {w w' : World} (h : w.grownBy w' (some b)) : Eff k b w w' := ⟨h.os, h.tape, h.output, h.size, fun i hi _ h2 => h.block i hi (by simpa using h2)⟩
theorem Eff.of_set {k b : Nat} (w : World) (i : Nat) (v : Value) : Eff k b w (w.setCell ⟨k, i, none⟩ v) :=
  ⟨rfl, rfl, rfl, by simp [World.setCell], fun j _ h1 _ => Below.heap_setCell _ _ _ _ h1⟩
theorem Eff.below {k b B : Nat} {w w' : World} (h : Eff k b w w') (h1 : B ≤ k) (h2 : B ≤ b) (hB : B ≤ w.heap.size) : Below B w w' := ⟨h.os, h.tape, h.output, h.size, fun i hi => h.block i (Nat.lt_of_lt_of_le hi hB) (by omega) (by omega)⟩

/-- the table at k, its map at b -/
structure TabAt (w : World) (k b : Nat) (L : List J) (last : Int) : Prop where
  blk : w.heap[k]? = some (.cells #[.map (some b), .int .u64 last] 55 (0, 0))
  map : ∃ D, w.ownsMap Tryz.prog 26 jobElem b (Maps.size D) D ∧ Holds1 D L
  rise : (L.map (·.id)).Pairwise (· < ·)
  each : ∀ j ∈ L, JF w j
  apart : ∀ j ∈ L, ∀ x, j.da = some x → x.block ≠ k ∧ x.block ≠ b
  ne : k ≠ b
  last : U64 last

section
variable {w w' : World} {k b : Nat} {L : List J} {last : Int}
theorem TabAt.ltk (h : TabAt w k b L last) : k < w.heap.size := lt_of_block h.blk
theorem TabAt.ltb (h : TabAt w k b L last) : b < w.heap.size := by obtain ⟨D, h1, _⟩ := h.map; exact h1.lt
theorem TabAt.cells (h : TabAt w k b L last) : w.cell? ⟨k, 0, none⟩ = some (.map (some b)) ∧ w.cell? ⟨k, 1, none⟩ = some (.int .u64 last) :=
  ⟨by rw [cell_of_row _ _ 0 _ _ _ h.blk]; rfl, by rw [cell_of_row _ _ 1 _ _ _ h.blk]; rfl⟩
theorem ownsMap_same {D : DataW Value} {n : Nat} (h : w.ownsMap Tryz.prog 26 jobElem b n D) (hk : w'.heap[b]? = w.heap[b]?) : w'.ownsMap Tryz.prog 26 jobElem b n D := by
  obtain ⟨es, clock, hb, r⟩ := h
  exact ⟨es, clock, hk.trans hb, r⟩
theorem TabAt.below (h : TabAt w k b L last) (hb : Below w.heap.size w w') : TabAt w' k b L last := by
  obtain ⟨D, h1, h2⟩ := h.map
  exact ⟨(hb.block _ h.ltk).trans h.blk, ⟨D, ownsMap_same h1 (hb.block _ h.ltb), h2⟩, h.rise, fun j hj => (h.each j hj).below hb, h.apart, h.ne, h.last⟩
theorem TabAt.look (h : TabAt w k b L last) {id : Int} (hi : U64 id) :
    (Instr.lookup 53 (.map (some b)) (.int .u64 id) true).run Tryz.prog w = .ok (.tuple #[((findJ L id).getD zeroJ).val, .bool (findJ L id).isSome]) w := by
  obtain ⟨D, h1, h2⟩ := h.map
  obtain ⟨v, ps, hrun, hv⟩ := h1.look_ok Gph.keyU_law Tryz.underlying53 (zero_job w) (jobElem_mk zeroJ.cells) (keyOfU hi)
  rw [hrun, h2.has id]
  obtain ⟨cs, rfl, e⟩ := jobElem_inv hv
  have e := congrArg Prod.fst e
  cases hf : findJ L id with
  | some j =>
    rw [h2.at_ id j hf] at e
    simp only [DataW.held.injEq] at e
    rw [← e]; rfl
  | none =>
    rw [atKey_of_not_has (by rw [h2.has id, hf]; rfl)] at e
    simp only [DataW.held.injEq] at e
    rw [← e]; rfl
theorem TabAt.look1 (h : TabAt w k b L last) {id : Int} (hi : U64 id) {j : J} (hf : findJ L id = some j) :
    (Instr.lookup 53 (.map (some b)) (.int .u64 id) false).run Tryz.prog w = .ok j.val w := by
  obtain ⟨D, h1, h2⟩ := h.map
  obtain ⟨v, ps, hrun, hv⟩ := h1.lookup Gph.keyU_law Tryz.underlying53 (zero_job w) (jobElem_mk zeroJ.cells) (keyOfU hi)
  rw [hrun]
  obtain ⟨cs, rfl, e⟩ := jobElem_inv hv
  have e := congrArg Prod.fst e
  rw [h2.at_ id j hf] at e
  simp only [DataW.held.injEq] at e
  rw [← e]
theorem TabAt.len (h : TabAt w k b L last) (ty : TypeId) : (Builtin.len_ #[53] ty #[.map (some b)]).run Tryz.prog w = .ok (.int .i64 (L.length : Int)) w := by
  obtain ⟨D, h1, h2⟩ := h.map
  rw [h1.len Tryz.underlying53, h2.size]

theorem Holds1.put {D : DataW Value} (h : Holds1 D L) (ht : Tidy D) (j : J) : Holds1 (D.put (.int .u64 j.id) (.held j.val)) (putJ L j) := by
  refine ⟨fun x => ?_, fun x i hx zd => ?_, ?_⟩
  · by_cases e : x = j.id
    · subst e; rw [has_put_same ht.isMap (isKeyU _), find_put_same]; rfl
    · rw [has_put_other (by simpa using e), find_put_other e, h.has]
  · by_cases e : x = j.id
    · subst e
      rw [find_put_same] at hx
      cases hx
      rw [atKey_put_same ht.isMap (isKeyU _)]
    · rw [find_put_other e] at hx
      rw [atKey_put_other (by simpa using e)]
      exact h.at_ x i hx zd
  · rw [size_put ht, putJ_len, h.has, h.size]
theorem Holds1.drop {D : DataW Value} (h : Holds1 D L) (ht : Tidy D) (hr : (L.map (·.id)).Pairwise (· < ·)) (id : Int) : Holds1 (D.del (.int .u64 id)) (dropJ L id) := by
  refine ⟨fun x => ?_, fun x i hx zd => ?_, ?_⟩
  · by_cases e : x = id
    · subst e; rw [has_del_same, find_drop_same]; rfl
    · rw [has_del_other (by simpa using e), find_drop_other e, h.has]
  · by_cases e : x = id
    · subst e; rw [find_drop_same] at hx; cases hx
    · rw [find_drop_other e] at hx
      rw [atKey_del_other (by simpa using e)]
      exact h.at_ x i hx zd
  · have h1 := size_del (k := (.int .u64 id)) ht
    have h2 := dropJ_len hr id
    rw [h.has, h.size] at h1
    omega

theorem putJ_rise (hr : (L.map (·.id)).Pairwise (· < ·)) {j : J} (hn : (findJ L j.id).isSome ∨ ∀ m ∈ L, m.id < j.id) : ((putJ L j).map (·.id)).Pairwise (· < ·) := by
  by_cases hf : (findJ L j.id).isSome
  · rw [putJ_ids hf]; exact hr
  · have hn := hn.resolve_left hf
    rw [putJ_new fun m hm => by have := hn m hm; omega, List.map_append, List.pairwise_append]
    refine ⟨hr, by simp, fun a ha c hc => ?_⟩
    obtain ⟨m, hm, rfl⟩ := List.mem_map.1 ha
    simp at hc
    subst hc
    exact hn m hm
/-- a job stored -/
theorem TabAt.put {D : DataW Value} {n : Nat} (h : TabAt w k b L last) (hD : w.ownsMap Tryz.prog 26 jobElem b (Maps.size D) D) (hH : Holds1 D L) {j : J} (hj : JF w j) (ha : ∀ x, j.da = some x → x.block ≠ k ∧ x.block ≠ b)
    (hn : (findJ L j.id).isSome ∨ ∀ m ∈ L, m.id < j.id) (hown : w'.ownsMap Tryz.prog 26 jobElem b n (D.put (.int .u64 j.id) (.held j.val))) (hg : w.grownBy w' (some b)) : TabAt w' k b (putJ L j) last := by
  refine ⟨(hg.block k h.ltk (by simp; exact h.ne)).trans h.blk, ⟨_, exactJ hown, hH.put (hD.tidy Gph.keyU_law) j⟩, putJ_rise h.rise hn, fun m hm => ?_, fun m hm => ?_, h.ne, h.last⟩
  · rcases putJ_mem hm with rfl | ⟨hm, _⟩
    · exact hj.kept hg.size fun x hx hl => hg.block _ hl (by simp; exact (ha x hx).2)
    · exact (h.each m hm).kept hg.size fun x hx hl => hg.block _ hl (by simp; exact (h.apart m hm x hx).2)
  · rcases putJ_mem hm with rfl | ⟨hm, _⟩
    · exact ha
    · exact h.apart m hm
theorem TabAt.drop {D : DataW Value} {n : Nat} (h : TabAt w k b L last) (hD : w.ownsMap Tryz.prog 26 jobElem b (Maps.size D) D) (hH : Holds1 D L) {id : Int}
    (hown : w'.ownsMap Tryz.prog 26 jobElem b n (D.del (.int .u64 id))) (hg : w.grownBy w' (some b)) : TabAt w' k b (dropJ L id) last := by
  have hsub : (dropJ L id).Sublist L := List.filter_sublist
  refine ⟨(hg.block k h.ltk (by simp; exact h.ne)).trans h.blk, ⟨_, exactJ hown, hH.drop (hD.tidy Gph.keyU_law) h.rise id⟩, h.rise.sublist (hsub.map _), fun m hm => ?_, fun m hm => h.apart m (hsub.subset hm), h.ne, h.last⟩
  exact (h.each m (hsub.subset hm)).kept hg.size fun x hx hl => hg.block _ hl (by simp; exact (h.apart m (hsub.subset hm) x hx).2)
/-- the last number written -/
theorem TabAt.setLast (h : TabAt w k b L last) {z : Int} (hz : U64 z) : TabAt (w.setCell ⟨k, 1, none⟩ (.int .u64 z)) k b L z := by
  have hs : (w.setCell ⟨k, 1, none⟩ (.int .u64 z)).heap.size = w.heap.size := by simp [World.setCell]
  have ho : ∀ i, i ≠ k → (w.setCell ⟨k, 1, none⟩ (.int .u64 z)).heap[i]? = w.heap[i]? := fun i hi => Below.heap_setCell _ _ _ _ hi
  obtain ⟨D, h1, h2⟩ := h.map
  refine ⟨?_, ⟨D, ownsMap_same h1 (ho b h.ne.symm), h2⟩, h.rise, fun j hj => (h.each j hj).kept (by rw [hs]; exact Nat.le_refl _) fun x hx _ => ho _ (h.apart j hj x hx).1, h.apart, h.ne, hz⟩
  have := h.blk
  simp [World.setCell, Array.getElem?_modify, this]
/-- a new table -/
theorem TabAt.made (w : World) {w1 : World} (hw : w1 = (w.alloc (.map #[] 0)).alloc (.cells #[.map (some w.heap.size), .int .u64 0] 55)) : TabAt w1 (w.heap.size + 1) w.heap.size [] 0 := by
  subst hw
  refine ⟨by have := heap_alloc_new (w.alloc (.map #[] 0)) (.cells #[.map (some w.heap.size), .int .u64 0] 55); simpa using this, ⟨.map [], (World.ownsMap_made w _ _ _).alloc _, ⟨fun x => rfl, fun x j hx => (by cases hx), rfl⟩⟩, List.Pairwise.nil, fun j hj => (by cases hj), fun j hj => (by cases hj), by omega, ⟨by omega, by omega⟩⟩
end
end Go.Proofs.YtpbnjibomdilhaaGreatDoor.Job
