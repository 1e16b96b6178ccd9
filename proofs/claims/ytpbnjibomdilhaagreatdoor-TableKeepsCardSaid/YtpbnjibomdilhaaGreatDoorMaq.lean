/- Rows of jobs, and of nodes, that a call makes; how they are read. List, Nodes, by their contracts. -/
import Derived.Test.YtpbnjibomdilhaaGreatDoorMap
import Derived.Test.YtpbnjibomdilhaaGreatDoorGValN13
namespace Go.Proofs.YtpbnjibomdilhaaGreatDoor.Job
open Go.RowKit Go.Maps

def encJ (j : J) : List Value := [.int .u64 j.id, .string j.name, .string j.expr, .int .i64 j.pol, .int .i64 j.gra, .int .i64 j.lim, .int .i64 j.ret, .int .i64 j.tim, .slice j.da j.deps.length j.dc, .bool j.pau, .int .u64 j.ver, .int .i64 j.seen]
def flatJ (l : List J) : List Value := (l.map encJ).flatten
theorem flatJ_snoc (l : List J) (j : J) : flatJ (l ++ [j]) = flatJ l ++ encJ j := by simp [flatJ]
theorem flatJ_len (l : List J) : (flatJ l).length = l.length * 12 := by
  induction l with
  | nil => rfl
  | cons j l ih => simp only [flatJ, List.map_cons, List.flatten_cons, List.length_append, List.length_cons] at ih ⊢; rw [ih]; simp [encJ]; omega
theorem flatJ_at {l : List J} : ∀ {i : Nat} (h : i < l.length) (c : Nat), c < 12 → (flatJ l)[i * 12 + c]? = (encJ l[i])[c]? := by
  induction l with
  | nil => intro i h; simp at h
  | cons j l ih =>
    intro i h c hc
    have e12 : (encJ j).length = 12 := rfl
    unfold flatJ at *
    rw [List.map_cons, List.flatten_cons]
    cases i with
    | zero => rw [Nat.zero_mul, Nat.zero_add, List.getElem?_append_left (by omega)]; rfl
    | succ i =>
      rw [List.getElem?_append_right (by omega), show (i + 1) * 12 + c - (encJ j).length = i * 12 + c by omega]
      exact ih (by simpa using h) c hc

/-- v holds just the jobs l, in a block from B on -/
def RowJ (B : Nat) (v : Value) (l : List J) (W : World) : Prop := W.ownsRow B 29 12 v l.length (flatJ l)
theorem RowJ.nil (B : Nat) (W : World) : RowJ B (.slice none 0 0) [] W := World.ownsRow_nil _ _ _ _
theorem ownRow_below {B n s : Nat} {e : TypeId} {v : Value} {xs : List Value} {W W' : World} (h : W.ownsRow B e s v n xs) (hb : Below W.heap.size W W') : W'.ownsRow B e s v n xs := by
  refine ⟨h.1, ?_⟩
  rcases h.2 with hn | ⟨g, cap, cur, rfl, hB, hg, rest⟩
  · exact .inl hn
  · exact .inr ⟨g, cap, cur, rfl, hB, (hb.block g (Array.getElem?_eq_some_iff.1 hg).1).trans hg, rest⟩
theorem ownRow_less {B B' n s : Nat} {e : TypeId} {v : Value} {xs : List Value} {W : World} (h : W.ownsRow B e s v n xs) (hB : B' ≤ B) : W.ownsRow B' e s v n xs := by
  refine ⟨h.1, ?_⟩
  rcases h.2 with hn | ⟨g, cap, cur, rfl, hb, rest⟩
  · exact .inl hn
  · exact .inr ⟨g, cap, cur, rfl, by omega, rest⟩
theorem ownRow_shape {B n s : Nat} {e : TypeId} {v : Value} {xs : List Value} {W : World} (h : W.ownsRow B e s v n xs) : ∃ a c, v = .slice a n c ∧ (a = none → n = 0 ∧ c = 0) := by
  rcases h.2 with ⟨rfl, rfl⟩ | ⟨g, cap, cur, rfl, _⟩
  · exact ⟨none, 0, rfl, fun _ => ⟨rfl, rfl⟩⟩
  · exact ⟨_, _, rfl, fun h => by cases h⟩

/-- the jobs l are read at a -/
structure JobsF (w : World) (a : Option Addr) (l : List J) : Prop where
  at_ : ∃ g q, (l ≠ [] → a = some ⟨g, q, none⟩) ∧ ∀ i (h : i < l.length), g < w.heap.size ∧ ∀ c, c < 12 → w.cell? ⟨g, q + (i * 12 + c), none⟩ = (encJ l[i])[c]?
  each : ∀ j ∈ l, JF w j
theorem JobsF.below {w w' : World} {a : Option Addr} {l : List J} (h : JobsF w a l) (hb : Below w.heap.size w w') : JobsF w' a l := by
  obtain ⟨⟨g, q, h1, h2⟩, h3⟩ := h
  exact ⟨⟨g, q, h1, fun i hi => ⟨Nat.lt_of_lt_of_le (h2 i hi).1 hb.size, fun c hc => (hb.cell (p := ⟨g, q + (i * 12 + c), none⟩) (h2 i hi).1).trans ((h2 i hi).2 c hc)⟩⟩, fun j hj => (h3 j hj).below hb⟩
theorem RowJ.read {B : Nat} {a : Option Addr} {n c : Nat} {l : List J} {W : World} (h : RowJ B (.slice a n c) l W) (hf : ∀ j ∈ l, JF W j) : JobsF W a l ∧ l.length ≤ c ∧ c ≤ maxLen ∧ n = l.length := by
  have h' := h
  rcases h.2 with ⟨e, hn⟩ | ⟨g, cap, cur, e, hB, hg, hc, hm, _⟩
  · cases e
    obtain rfl := List.eq_nil_of_length_eq_zero hn
    exact ⟨⟨⟨0, 0, fun h => absurd rfl h, fun i hi => absurd hi (by simp)⟩, hf⟩, Nat.zero_le _, Nat.zero_le _, rfl⟩
  · cases e
    refine ⟨⟨⟨g, 0, fun _ => rfl, fun i hi => ⟨(Array.getElem?_eq_some_iff.1 hg).1, fun q hq => ?_⟩⟩, hf⟩, hc, hm, rfl⟩
    have hl := flatJ_len l
    rw [Nat.zero_add, ← flatJ_at hi q hq]
    exact World.ownsRow.cellAt h' _ (by omega)
/-- a job's twelve cells in such a row -/
theorem JobsF.cells {w : World} {g q : Nat} {j : J} {i : Nat} (h : ∀ c, c < 12 → w.cell? ⟨g, q + (i * 12 + c), none⟩ = (encJ j)[c]?) :
    (w.cell? ⟨g, q + i * 12, none⟩ = some (.int .u64 j.id) ∧ w.cell? ⟨g, q + i * 12 + 1, none⟩ = some (.string j.name) ∧ w.cell? ⟨g, q + i * 12 + 2, none⟩ = some (.string j.expr) ∧ w.cell? ⟨g, q + i * 12 + 3, none⟩ = some (.int .i64 j.pol) ∧
    w.cell? ⟨g, q + i * 12 + 4, none⟩ = some (.int .i64 j.gra) ∧ w.cell? ⟨g, q + i * 12 + 5, none⟩ = some (.int .i64 j.lim)) ∧ (w.cell? ⟨g, q + i * 12 + 6, none⟩ = some (.int .i64 j.ret) ∧ w.cell? ⟨g, q + i * 12 + 7, none⟩ = some (.int .i64 j.tim) ∧
    w.cell? ⟨g, q + i * 12 + 8, none⟩ = some (.slice j.da j.deps.length j.dc) ∧ w.cell? ⟨g, q + i * 12 + 9, none⟩ = some (.bool j.pau) ∧ w.cell? ⟨g, q + i * 12 + 10, none⟩ = some (.int .u64 j.ver) ∧ w.cell? ⟨g, q + i * 12 + 11, none⟩ = some (.int .i64 j.seen)) :=
  ⟨⟨h 0 (by omega), h 1 (by omega), h 2 (by omega), h 3 (by omega), h 4 (by omega), h 5 (by omega)⟩, h 6 (by omega), h 7 (by omega), h 8 (by omega), h 9 (by omega), h 10 (by omega), h 11 (by omega)⟩

/-- one job more, behind an append -/
theorem run_appJ {W : World} {B : Nat} {v : Value} {l : List J} (h : RowJ B v l W) (hB : B ≤ W.heap.size) (j : J) (hl : l.length < 1000000) :
    ∃ v' W', (Builtin.append_ #[33, 33] 33 #[v, .slice (some ⟨W.heap.size, 0, none⟩) 1 1]).run Tryz.prog (W.alloc (.cells j.cs 29)) = .ok v' W' ∧ RowJ B v' (l ++ [j]) W' ∧ (W.alloc (.cells j.cs 29)).grownBy W' v.ownBlock ∧ (v'.ownBlock = v.ownBlock ∨ v'.ownBlock = some (W.heap.size + 1)) := by
  obtain ⟨i0, hi, hz0, hz1, hz2⟩ := info_parts infoJob
  have hfl := flatJ_len l
  obtain ⟨v', W', hrun, hown, hg, _, hlies⟩ := run_append_own_at (P := Tryz.prog) (W.alloc (.cells j.cs 29)) B 33 33 29 i0 zeroJ.val 12 128 Tryz.underlying33 hi hz0 hz1 hz2 (by rfl) (by decide) v l.length _ (World.ownsRow.alloc h _) ⟨W.heap.size, 0, none⟩ 1 1 (encJ j) rfl
    (Gph.cells_new W (encJ j) _) (by intro u hu; simp [encJ] at hu; rcases hu with rfl | rfl | rfl | rfl | rfl | rfl | rfl | rfl | rfl | rfl | rfl | rfl <;> rfl) (by unfold maxLen; omega) (by omega) (by simp; omega)
  rw [World.size_alloc] at hlies
  refine ⟨v', W', hrun, ?_, hg, hlies⟩
  unfold RowJ
  rw [List.length_append, List.length_singleton, flatJ_snoc]
  exact hown

/-- a job's node -/
def J.nodeV (j : J) : Gph.NodeV := ⟨j.id, j.da, j.dc, j.deps⟩
theorem nodeF {w : World} {j : J} (h : JF w j) : Gph.NodeF w j.nodeV := by
  obtain ⟨id, name, expr, pol, gra, lim, ret, tim, da, dc, deps, pau, ver, seen⟩ := j
  obtain ⟨g, q, h1, h2⟩ := h.vals
  refine ⟨h.id, ⟨⟨g, q, fun hne => h1 (by intro e; exact hne (List.map_eq_nil_iff.1 e)), fun i hi => ?_⟩, h.fit⟩, h.cap, h.big⟩
  have := h2 i (by rw [List.length_map]; exact hi)
  exact ⟨this.1, by rw [this.2, List.getElem_map]; rfl⟩
theorem rowOf_nodes (l : List J) : Gph.rowOf (l.map J.nodeV) = rowJ l := by
  unfold Gph.rowOf rowJ
  rw [List.map_map]
  rfl
/-- one node more, behind an append -/
theorem run_appN {W : World} {B : Nat} {v : Value} {l : List Gph.NodeV} (h : Gph.RowN B v l W) (hB : B ≤ W.heap.size) (x : Gph.NodeV) (hl : l.length < 1000000) :
    ∃ v' W', (Builtin.append_ #[47, 47] 47 #[v, .slice (some ⟨W.heap.size, 0, none⟩) 1 1]).run Tryz.prog (W.alloc (.cells #[.int .u64 x.id, .slice x.da x.deps.length x.dc] 72)) = .ok v' W' ∧ Gph.RowN B v' (l ++ [x]) W' ∧ (W.alloc (.cells #[.int .u64 x.id, .slice x.da x.deps.length x.dc] 72)).grownBy W' v.ownBlock := by
  obtain ⟨i0, hi, hz0, hz1, hz2⟩ := info_parts Gph.infoNode
  have hfl := Gph.flatN_len l
  obtain ⟨v', W', hrun, hown, hg, _⟩ := run_append_own_at (P := Tryz.prog) (W.alloc (.cells #[.int .u64 x.id, .slice x.da x.deps.length x.dc] 72)) B 47 47 72 i0 (.agg #[.int .u64 0, .slice none 0 0]) 2 32 Tryz.underlying47 hi hz0 hz1 hz2 (by rfl) (by decide) v l.length _ (World.ownsRow.alloc h.own _) ⟨W.heap.size, 0, none⟩ 1 1 (Gph.encN x) rfl
    (Gph.cells_new W (Gph.encN x) _) (by intro u hu; simp [Gph.encN] at hu; rcases hu with rfl | rfl <;> rfl) (by unfold maxLen; omega) (by omega) (by simp; omega)
  refine ⟨v', W', hrun, ⟨?_⟩, hg⟩
  rw [List.length_append, List.length_singleton, Gph.flatN_snoc]
  exact hown
end Go.Proofs.YtpbnjibomdilhaaGreatDoor.Job

namespace Go.Proofs.YtpbnjibomdilhaaGreatDoor.Job
open Go.RowKit Go.Maps

/-- the jobs l are the jobs L, their Deps elsewhere, from B on -/
structure Like (w : World) (B : Nat) (l L : List J) : Prop where
  bare : l.map J.bare = L.map J.bare
  each : ∀ j ∈ l, JF w j ∧ ∀ x, j.da = some x → B ≤ x.block
theorem Like.len {w : World} {B : Nat} {l L : List J} (h : Like w B l L) : l.length = L.length := by have := congrArg List.length h.bare; simpa using this
theorem Like.below {w w' : World} {B : Nat} {l L : List J} (h : Like w B l L) (hb : Below w.heap.size w w') : Like w' B l L := ⟨h.bare, fun j hj => ⟨(h.each j hj).1.below hb, (h.each j hj).2⟩⟩
theorem Like.less {w : World} {B B' : Nat} {l L : List J} (h : Like w B l L) (hb : B' ≤ B) : Like w B' l L := ⟨h.bare, fun j hj => ⟨(h.each j hj).1, fun x hx => Nat.le_trans hb ((h.each j hj).2 x hx)⟩⟩
theorem Like.nil (w : World) (B : Nat) : Like w B [] [] := ⟨rfl, fun j hj => (by cases hj)⟩
theorem Like.snoc {w : World} {B : Nat} {l L : List J} (h : Like w B l L) {j j' : J} (hb : j'.bare = j.bare) (hj : JF w j') (ha : ∀ x, j'.da = some x → B ≤ x.block) : Like w B (l ++ [j']) (L ++ [j]) :=
  ⟨by rw [List.map_append, List.map_append, h.bare, List.map_singleton, List.map_singleton, hb], fun k hk => by
    rcases List.mem_append.1 hk with hk | hk
    · exact h.each k hk
    · simp at hk; subst hk; exact ⟨hj, ha⟩⟩
theorem bare_at (j : J) (a : Option Addr) (c : Nat) : (j.at a c).bare = j.bare := rfl

/-- no job's Deps lie in the row's own block -/
def AsideJ (v : Value) (l : List J) (w : World) : Prop := ∀ j ∈ l, ∀ x, j.da = some x → v.ownBlock ≠ some x.block ∧ x.block < w.heap.size
theorem ids_sorted {D : DataW Value} {L : List J} {ss : List Int} (hH : Holds1 D L) (hr : (L.map (·.id)).Pairwise (· < ·)) (hs : Gph.AllKeys D ss) (hp : ss.Pairwise (· < ·)) : ss = L.map (·.id) := by
  refine Gr.rise_one hp hr fun x => ?_
  rw [hs.mem x, hH.has x]
  constructor
  · intro h
    obtain ⟨j, hj, e⟩ := findJ_some h
    exact List.mem_map.2 ⟨j, hj, e⟩
  · intro h
    obtain ⟨j, hj, e⟩ := List.mem_map.1 h
    rw [← e, rise_find hr hj]; rfl

set_option maxRecDepth 100000 in
set_option maxHeartbeats 2000000 in
theorem list_any {w : World} {k b : Nat} {L : List J} {last : Int} (h : TabAt w k b L last) (hd : ∀ j ∈ L, j.deps.length ≤ 1000000) (hL : L.length ≤ 1000) :
    Calls Tryz.prog 7 #[.pointer (some ⟨k, 0, none⟩)] w fun e w' => ∃ v l, e = .returned v ∧ RowJ w.heap.size v l w' ∧ Like w' w.heap.size l L ∧ AsideJ v l w' ∧ Below w.heap.size w w' := by
  obtain ⟨c0, -⟩ := h.cells
  obtain ⟨D, hown, hH⟩ := h.map
  have HN := Lib.hid (isNone_no h)
  have hal : Below w.heap.size w (w.alloc (.cells #[.map (some b)] 53)) := (Below.refl _ _).alloc (Nat.le_refl _) _
  have HK := Lib.hid (Gph.sortedKeys_u w.heap.size b _ D (w.alloc (.cells #[.map (some b)] 53)) (by rw [World.cell?_alloc_at _ _ _ _ rfl]; rfl) (hown.alloc _) (by rw [hH.size]; omega))
  have HAL := Lib.hid hal
  have HT := Lib.hid h
  have HHH := Lib.hid hH
  have HDD := Lib.hid hd
  have HLL := Lib.hid hL
  clear h hown hH hal hd hL
  go_enter Tryz.func7, Tryz.ntmps7
  go_wp2_with fail
  refine HN.out.mono ?_
  rintro e w1 ⟨rfl, rfl⟩
  go_wp2_with fail
  refine (Gph.mapsKeys_u (some b) w).mono ?_
  rintro e w1 ⟨rfl, rfl⟩
  go_wp2_with fail
  refine HK.out.mono ?_
  rintro e w2 ⟨v, ss, rfl, hS, hp, hl, hrow, hb⟩
  obtain rfl := ids_sorted HHH.out HT.out.rise hS hp
  obtain ⟨va, vc, rfl, hva⟩ := ownRow_shape hrow
  rw [List.length_map] at hrow ⊢
  have hb2 : Below w.heap.size w w2 := HAL.out.trans (hb.mono HAL.out.size)
  obtain ⟨a, c, ev, -, -, -, hvals, -⟩ := own_shape hrow
  cases ev
  have HV := Lib.hid hvals
  have HB2 := Lib.hid hb2
  clear hb hb2 hS hp hl hrow hva c0 HK HN hvals
  go_wp2_with fail
  go_loopw [3, 15] (fun v3 v15 wr => ∃ (i : Nat) (l : List J), v15 = .int .i64 (i : Int) ∧ i ≤ L.length ∧ RowJ w2.heap.size v3 l wr ∧ Like wr w2.heap.size l (L.take i) ∧ AsideJ v3 l wr ∧ Below w2.heap.size w2 wr)
    (fun _ v15 _ => L.length - (intOf v15).toNat)
  case atStart => exact ⟨0, [], rfl, Nat.zero_le _, RowJ.nil _ _, Like.nil _ _, (fun j hj => by cases hj), Below.refl _ _⟩
  case round =>
    obtain ⟨i, l, rfl, hi, hrow, hlike, hasd, hbel⟩ := hrel
    by_cases hlt : i < L.length
    · obtain ⟨g, q, h1, h2⟩ := HV.out
      have ea := h1 (by intro e; have := congrArg List.length e; rw [List.length_map, List.length_map, List.length_nil] at this; omega)
      cases ea
      obtain ⟨hg, hc⟩ := h2 i (by simp; exact hlt)
      rw [List.getElem_map, List.getElem_map] at hc
      have htk : L.take (i + 1) = L.take i ++ [L[i]] := List.take_succ_eq_append_getElem hlt
      have hmem : L[i] ∈ L := List.getElem_mem hlt
      obtain ⟨x, hx⟩ : ∃ x, L[i] = x := ⟨_, rfl⟩
      rw [hx] at hc htk hmem
      have hc2 := (hbel.cell (p := ⟨g, q + i, none⟩) hg).trans hc
      have htr := (HT.out.below HB2.out).below hbel
      have hck := htr.cells.1
      have hlk := htr.look1 (HT.out.each x hmem).id (rise_find HT.out.rise hmem)
      have hjx := htr.each x hmem
      have HTO := Lib.hid (told_any hjx (HDD.out x hmem))
      obtain ⟨va3, vc3, rfl, hva3⟩ := ownRow_shape hrow
      have hd : decide ((i : Int) < (L.length : Int)) = true := by simp; omega
      have hlen : l.length = i := by have := hlike.len; rw [List.length_take] at this; omega
      have HROW := Lib.hid hrow
      have HLIKE := Lib.hid hlike
      have HBEL := Lib.hid hbel
      have HASD := Lib.hid hasd
      have HTK := Lib.hid htk
      have HLEN := Lib.hid hlen
      have HI := Lib.hid hi
      unfold Gph.encU at hc2
      unfold J.val J.cells jcells at hlk HTO
      clear h1 h2 hc htk hx hmem htr hjx hva3 hrow hlike hasd hbel hg hlen hi
      go_wp2_with fail
      refine HTO.out.mono ?_
      rintro e w3 ⟨v, rfl, ⟨da, dc, rfl, hjf, hda⟩, hb3⟩
      have hs3 : w2.heap.size ≤ w3.heap.size := Nat.le_trans HBEL.out.size hb3.size
      obtain ⟨v', w4, hrun, hrow4, hg4, hlies⟩ := run_appJ (ownRow_below HROW.out hb3) hs3 (x.at da dc) (by rw [HLEN.out]; have := HLL.out; omega)
      have hbA : Below w3.heap.size w3 (w3.alloc (.cells (x.at da dc).cs 29)) := (Below.refl _ _).alloc (Nat.le_refl _) _
      have hb34 : Below w2.heap.size w2 w4 := ((HBEL.out.trans (hb3.mono HBEL.out.size)).trans (hbA.mono hs3)).grown hg4 (by simp; omega) (fun j e => (World.ownsRow.lt HROW.out j e).1)
      have hs4 : w3.heap.size ≤ w4.heap.size := Nat.le_trans hbA.size hg4.size
      have hr34 : ∀ blk, blk < w3.heap.size → (Value.slice va3 l.length vc3).ownBlock ≠ some blk → w4.heap[blk]? = w3.heap[blk]? := fun blk hbk hne =>
        (hg4.block blk (by simp; omega) (fun e => hne e.symm)).trans (Below.heap_alloc _ _ _ hbk)
      have hown3 : ∀ blk, (Value.slice va3 l.length vc3).ownBlock = some blk → blk < wr.heap.size := fun blk e => (World.ownsRow.lt HROW.out blk e).2
      have hl3 := HLIKE.out.below hb3
      have hl4 : Like w4 w2.heap.size l (L.take i) := ⟨hl3.bare, fun j hj => ⟨(hl3.each j hj).1.kept hs4 fun y hy hl => hr34 _ hl (HASD.out j hj y hy).1, (hl3.each j hj).2⟩⟩
      have hj4 : JF w4 (x.at da dc) := hjf.kept hs4 fun y hy hl => hr34 _ hl fun e => by have := hown3 _ e; have := (hda y hy).1; omega
      have hl5 := hl4.snoc (j := x) (bare_at x da dc) hj4 (fun y hy => by have := (hda y hy).1; have := HBEL.out.size; omega)
      rw [← HTK.out] at hl5
      have ha5 : AsideJ v' (l ++ [x.at da dc]) w4 := fun j hj y hy => by
        have hb : (Value.slice va3 l.length vc3).ownBlock ≠ some y.block ∧ y.block < w3.heap.size := by
          rcases List.mem_append.1 hj with hj | hj
          · exact ⟨(HASD.out j hj y hy).1, Nat.lt_of_lt_of_le (HASD.out j hj y hy).2 hb3.size⟩
          · simp at hj
            subst hj
            have := hda y hy
            exact ⟨fun e => by have := hown3 _ e; omega, this.2⟩
        refine ⟨?_, Nat.lt_of_lt_of_le hb.2 hs4⟩
        rcases hlies with e | e
        · rw [e]; exact hb.1
        · rw [e]; intro e2; have := Option.some.inj e2; omega
      obtain ⟨a4, c4, e4, -⟩ := ownRow_shape hrow4
      rw [show (l ++ [x.at da dc]).length = l.length + 1 by simp] at e4
      subst e4
      have hb1 : (i : Int) < 1000 := by have := HLL.out; omega
      have hb0 : (0 : Int) ≤ i := by omega
      have HR4 := Lib.hid hrow4
      have HL5 := Lib.hid hl5
      have HA5 := Lib.hid ha5
      have HB34 := Lib.hid hb34
      unfold J.val J.cells jcells
      clear hrow4 hl5 ha5 hb34 hg4 hlies hbA hs4 hr34 hown3 hl3 hl4 hj4 hjf hda hb3 hs3 hlk hc2 hck HTO
      go_wp2_with (at_builtin; go_loud (refine Lib.wpList_append_run _ rfl _ _ _ _ rfl _ _ rfl rfl _ _ hrun ?_))
      go_roundw
      case rel => exact ⟨i + 1, _, by go_num, hlt, HR4.out, HL5.out, HA5.out, HB34.out⟩
      case measure => simp [intOf]; omega
    · obtain rfl : i = L.length := by omega
      have hd : decide ((L.length : Int) < (L.length : Int)) = false := by simp
      rw [List.take_length] at hlike
      obtain ⟨va3, vc3, rfl, hva3⟩ := ownRow_shape hrow
      have HROW := Lib.hid (ownRow_less hrow HB2.out.size)
      have HLIKE := Lib.hid (hlike.less HB2.out.size)
      have HBEL := Lib.hid (HB2.out.trans (hbel.mono HB2.out.size))
      have HASD := Lib.hid hasd
      clear hrow hlike hasd hbel hva3
      go_wp2_with fail
      go_ret
      exact ⟨_, l, rfl, HROW.out, HLIKE.out, HASD.out, HBEL.out⟩
end Go.Proofs.YtpbnjibomdilhaaGreatDoor.Job
