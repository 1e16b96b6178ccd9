/- Plain mathematics of layer 10: a log all of whose records are good; what put makes of it. No program is spoken of here. refusal and put, by their contracts. -/
import Derived.Test.YtmfemedcjgeheaaGreatDoorWalN
import Derived.Test.YtmfemedcjgeheaaGreatDoorOpA
import Derived.Test.YtmfemedcjgeheaaGreatDoorRecA
namespace Go.Proofs.YtmfemedcjgeheaaGreatDoor.Wl
open Dsk

/-- a log: numbers and records of its segments, and its entries -/
structure Whole (M : Files) (L : List (Nat × List Ent)) (E : List Ent) : Prop where
  segs : SegList M (L.map fun x => (x.1, flatE x.2))
  ne : ∀ x ∈ L, x.2 ≠ []
  ok : ∀ x ∈ L, ∀ e ∈ x.2, e.ok
  ents : chain [] (L.map Prod.snd).flatten = some E
  gone : ∀ k, 1 ≤ k → k ≤ 99999999 → (M.at (nameOf k)).now.there = false → M (nameOf k) = none

def sgOf (x : Nat × List Ent) : Sg := ⟨x.1, flatE x.2, (flatE x.2).length, x.2⟩

theorem readGo_whole : ∀ (L : List (Nat × List Ent)) (E0 : List Ent) {E : List Ent}, (∀ x ∈ L, x.2 ≠ []) → (∀ x ∈ L, ∀ e ∈ x.2, e.ok) → chain E0 (L.map Prod.snd).flatten = some E →
    readGo (L.map fun x => (x.1, flatE x.2)) E0 = (L.map sgOf, E)
  | [], E0, E, _, _, h => by simp only [List.map_nil, List.flatten_nil, chain_nil, Option.some.injEq] at h; subst h; rfl
  | x :: L, E0, E, hne, hok, h => by
    rw [List.map_cons, List.flatten_cons] at h
    obtain ⟨E1, h1, h2⟩ := chain_split _ _ _ h
    have hw := walk_whole (hok x (by simp)) h1
    rw [List.map_cons, readGo_more (x := (x.1, flatE x.2)) _ hw (hne x (by simp)), readGo_whole L E1 (fun y hy => hne y (by simp [hy])) (fun y hy => hok y (by simp [hy])) h2]
    rfl

theorem Whole.read {M : Files} {L : List (Nat × List Ent)} {E : List Ent} (h : Whole M L E) {ks : List Name} (hks : NamesOf M (fun f => f.now.there) ks) : readGo (segsOf M (numsOf ks)) [] = (L.map sgOf, E) := by
  rw [(segs_of hks).one h.segs]
  exact readGo_whole L [] h.ne h.ok h.ents
theorem Whole.entsOk {M : Files} {L : List (Nat × List Ent)} {E : List Ent} (h : Whole M L E) : ∀ e ∈ E, e.ok := by
  refine chain_ok [] _ (fun e he => by cases he) (fun e he => ?_) h.ents
  obtain ⟨l, hl, hel⟩ := List.mem_flatten.1 he
  obtain ⟨x, hx, rfl⟩ := List.mem_map.1 hl
  exact h.ok x hx e hel
theorem Whole.new : Whole (fun _ => none) [] [] where
  segs := ⟨.nil, fun k bs => by simp [Files.at, Fil.zero, Fil.now, Ver.zero]⟩
  ne := fun x hx => by cases hx
  ok := fun x hx => by cases hx
  ents := rfl
  gone := fun _ _ _ _ => rfl

/-- the log's last segment, as the calls count it -/
structure Cur where
  num : Nat
  n : Nat
def Cur.fresh (c : Cur) : Bool := decide (c.num = 0) || decide (8 ≤ c.n)
/-- where the next entry goes -/
def Cur.next (c : Cur) : Cur := if c.fresh = true then ⟨c.num + 1, 0⟩ else c
def curL (L : List (Nat × List Ent)) : Cur := match L.getLast? with
  | none => ⟨0, 0⟩
  | some x => ⟨x.1, x.2.length⟩
theorem curL_snoc (L : List (Nat × List Ent)) (x : Nat × List Ent) : curL (L ++ [x]) = ⟨x.1, x.2.length⟩ := by simp [curL]

/-- a full segment is synced ahead -/
def syncM (M : Files) (c : Cur) : Files := if 8 ≤ c.n then upd M (nameOf c.num) (settled (M.at (nameOf c.num)).now) else M
/-- bytes go behind a file; one that is not there is made -/
def appF (f : Fil) (zs : List Int) : Fil := if f.now.there = true then f.app zs else f.chg ⟨true, zs, zs.length⟩
def putM (M : Files) (c : Cur) (e : Ent) : Files := upd (syncM M c) (nameOf c.next.num) (some (appF ((syncM M c).at (nameOf c.next.num)) (frm e)))

theorem app_now (f : Fil) (zs : List Int) : (f.app zs).now = f.now.app zs := by
  by_cases h : f.later = []
  · rw [Fil.app_nil h, Fil.now_nil h]
    rfl
  · obtain ⟨l, v, hl⟩ : ∃ l v, f.later = l ++ [v] := ⟨f.later.dropLast, f.later.getLast h, (List.dropLast_concat_getLast h).symm⟩
    rw [Fil.app_some hl, Fil.now_some hl]
    exact Fil.now_some (l := l) rfl
theorem chg_now' (f : Fil) (v : Ver) : (f.chg v).now = v := Fil.now_some (l := f.later) rfl
theorem settled_now {M : Files} {n : Name} {v : Ver} (h : v.there = true) : ((upd M n (settled v)).at n).now = ⟨true, v.bs, v.bs.length⟩ := by
  simp [Files.at, upd, settled, h, Fil.now]

theorem segList_new {M : Files} {l : List (Nat × List Int)} {k : Nat} {f : Fil} (h : SegList M l) (hk : 1 ≤ k ∧ k ≤ 99999999) (hl : ∀ x ∈ l, x.1 < k) (hf : f.now.there = true) : SegList (upd M (nameOf k) (some f)) (l ++ [(k, f.now.bs)]) := by
  refine ⟨List.pairwise_append.2 ⟨h.1, by simp, fun a ha b hb => by simp at hb; subst hb; exact hl a ha⟩, fun j bs => ?_⟩
  by_cases hj : j = k
  · subst hj
    rw [List.mem_append]
    have hno : ¬ (j, bs) ∈ l := fun e => absurd (hl _ e) (Nat.lt_irrefl _)
    simp [hno, upd_at, hf, hk]
  · have h1 := h.2 j bs
    rw [List.mem_append]
    simp only [List.mem_singleton, Prod.mk.injEq, hj, false_and, or_false]
    rw [h1]
    constructor
    · rintro ⟨a1, a2, a3⟩
      have : nameOf j ≠ nameOf k := fun e => hj (name_inj a1 hk e)
      rw [upd_at_other _ _ this]
      exact ⟨a1, a2, a3⟩
    · rintro ⟨a1, a2, a3⟩
      have : nameOf j ≠ nameOf k := fun e => hj (name_inj a1 hk e)
      rw [upd_at_other _ _ this] at a2 a3
      exact ⟨a1, a2, a3⟩
theorem segList_last {M : Files} {l : List (Nat × List Int)} {k : Nat} {bs : List Int} {f : Fil} (h : SegList M (l ++ [(k, bs)])) (hf : f.now.there = true) : SegList (upd M (nameOf k) (some f)) (l ++ [(k, f.now.bs)]) := by
  have hp := List.pairwise_append.1 h.1
  have hk : 1 ≤ k ∧ k ≤ 99999999 := ((h.2 k bs).1 (by simp)).1
  have hl : ∀ x ∈ l, x.1 < k := fun x hx => hp.2.2 x hx (k, bs) (by simp)
  refine ⟨List.pairwise_append.2 ⟨hp.1, by simp, fun a ha b hb => by simp at hb; subst hb; exact hl a ha⟩, fun j cs => ?_⟩
  by_cases hj : j = k
  · subst hj
    rw [List.mem_append]
    have hno : ¬ (j, cs) ∈ l := fun e => absurd (hl _ e) (Nat.lt_irrefl _)
    simp [hno, upd_at, hf, hk]
  · have h1 := h.2 j cs
    rw [List.mem_append] at h1 ⊢
    simp only [List.mem_singleton, Prod.mk.injEq, hj, false_and, or_false] at h1 ⊢
    rw [h1]
    constructor
    · rintro ⟨a1, a2, a3⟩
      have : nameOf j ≠ nameOf k := fun e => hj (name_inj a1 hk e)
      rw [upd_at_other _ _ this]
      exact ⟨a1, a2, a3⟩
    · rintro ⟨a1, a2, a3⟩
      have : nameOf j ≠ nameOf k := fun e => hj (name_inj a1 hk e)
      rw [upd_at_other _ _ this] at a2 a3
      exact ⟨a1, a2, a3⟩
theorem segList_sync {M : Files} {l : List (Nat × List Int)} {k : Nat} (h : SegList M l) (hk : 1 ≤ k ∧ k ≤ 99999999) (ht : (M.at (nameOf k)).now.there = true) : SegList (upd M (nameOf k) (settled (M.at (nameOf k)).now)) l := by
  refine ⟨h.1, fun j bs => ?_⟩
  rw [h.2 j bs]
  by_cases hj : j = k
  · subst hj
    rw [settled_now ht, ht]
  · constructor
    · rintro ⟨a1, a2, a3⟩
      rw [upd_at_other _ _ (fun e => hj (name_inj a1 hk e))]
      exact ⟨a1, a2, a3⟩
    · rintro ⟨a1, a2, a3⟩
      rw [upd_at_other _ _ (fun e => hj (name_inj a1 hk e))] at a2 a3
      exact ⟨a1, a2, a3⟩

/-- the log behind one more entry -/
def putL (L : List (Nat × List Ent)) (e : Ent) : List (Nat × List Ent) := match L.getLast? with
  | none => [(1, [e])]
  | some x => if 8 ≤ x.2.length then L ++ [(x.1 + 1, [e])] else L.dropLast ++ [(x.1, x.2 ++ [e])]
theorem putL_nil (e : Ent) : putL [] e = [(1, [e])] := rfl
theorem putL_full {L : List (Nat × List Ent)} {x : Nat × List Ent} (e : Ent) (h : 8 ≤ x.2.length) : putL (L ++ [x]) e = L ++ [x] ++ [(x.1 + 1, [e])] := by simp [putL, h]
theorem putL_more {L : List (Nat × List Ent)} {x : Nat × List Ent} (e : Ent) (h : ¬ 8 ≤ x.2.length) : putL (L ++ [x]) e = L ++ [(x.1, x.2 ++ [e])] := by simp [putL, h]

theorem next_full {k n : Nat} (h : 8 ≤ n) : (Cur.mk k n).next = ⟨k + 1, 0⟩ := by simp [Cur.next, Cur.fresh, h]
theorem next_zero (n : Nat) : (Cur.mk 0 n).next = ⟨1, 0⟩ := by simp [Cur.next, Cur.fresh]
theorem next_same {k n : Nat} (h0 : k ≠ 0) (h : ¬ 8 ≤ n) : (Cur.mk k n).next = ⟨k, n⟩ := by simp [Cur.next, Cur.fresh, h, h0]

theorem Whole.last {M : Files} {L : List (Nat × List Ent)} {x : Nat × List Ent} {E : List Ent} (h : Whole M (L ++ [x]) E) : (1 ≤ x.1 ∧ x.1 ≤ 99999999) ∧ (M.at (nameOf x.1)).now.there = true ∧ flatE x.2 = (M.at (nameOf x.1)).now.bs ∧ ∀ y ∈ L, y.1 < x.1 := by
  obtain ⟨a1, a2, a3⟩ := (h.segs.2 x.1 (flatE x.2)).1 (by simp)
  refine ⟨a1, a2, a3, fun y hy => ?_⟩
  have hp := h.segs.1
  rw [List.map_append] at hp
  exact (List.pairwise_append.1 hp).2.2 (y.1, flatE y.2) (List.mem_map.2 ⟨y, hy, rfl⟩) (x.1, flatE x.2) (by simp)

theorem ents_snoc {L : List (Nat × List Ent)} {x : Nat × List Ent} {E E' : List Ent} {e : Ent} (h : chain [] (((L ++ [x]).map Prod.snd).flatten) = some E) (hf : follow E e = some E') : chain [] (((L ++ [(x.1, x.2 ++ [e])]).map Prod.snd).flatten) = some E' := by
  have : (((L ++ [(x.1, x.2 ++ [e])]).map Prod.snd).flatten) = ((L ++ [x]).map Prod.snd).flatten ++ [e] := by simp
  rw [this, chain_snoc e h, hf]
theorem ents_more {L : List (Nat × List Ent)} {k : Nat} {E E' : List Ent} {e : Ent} (h : chain [] ((L.map Prod.snd).flatten) = some E) (hf : follow E e = some E') : chain [] (((L ++ [(k, [e])]).map Prod.snd).flatten) = some E' := by
  have : (((L ++ [(k, [e])]).map Prod.snd).flatten) = (L.map Prod.snd).flatten ++ [e] := by simp
  rw [this, chain_snoc e h, hf]

/-- one more entry, of a log that is whole -/
theorem Whole.put {M : Files} {L : List (Nat × List Ent)} {E E' : List Ent} (h : Whole M L E) {e : Ent} (he : e.ok) (hf : follow E e = some E') (hk : (curL L).num < 99999999) : Whole (putM M (curL L) e) (putL L e) E' := by
  have hnow : ∀ f : Fil, (appF f (frm e)).now.there = true := fun f => by
    unfold appF
    split
    · rw [app_now]; assumption
    · rw [chg_now']
  by_cases hL : L = []
  · subst hL
    have hc : curL [] = ⟨0, 0⟩ := rfl
    have hs : syncM M ⟨0, 0⟩ = M := rfl
    have hth : (M.at (nameOf 1)).now.there = false := by
      cases ht : (M.at (nameOf 1)).now.there with
      | false => rfl
      | true => have := (h.segs.2 1 _).2 ⟨⟨by decide, by decide⟩, ht, rfl⟩; simp at this
    have hbs : (appF (M.at (nameOf 1)) (frm e)).now.bs = flatE [e] := by
      unfold appF
      rw [if_neg (by rw [hth]; decide), chg_now']
      simp [flatE]
    rw [hc, putM, next_zero, hs, putL_nil]
    have hseg := segList_new h.segs (k := 1) ⟨by decide, by decide⟩ (fun x hx => by simp at hx) (hnow (M.at (nameOf 1)))
    rw [hbs] at hseg
    refine ⟨hseg, fun x hx => ?_, fun x hx => ?_, ents_more (L := []) h.ents hf, fun k h1 h2 hg => ?_⟩
    · simp at hx; subst hx; simp
    · simp at hx; subst hx; intro y hy; simp at hy; subst hy; exact he
    · by_cases hk1 : k = 1
      · subst hk1; rw [upd_at, hnow] at hg; cases hg
      · have hne : nameOf k ≠ nameOf 1 := fun e0 => hk1 (name_inj ⟨h1, h2⟩ ⟨by decide, by decide⟩ e0)
        rw [upd_at_other _ _ hne] at hg
        rw [upd_other _ _ hne]
        exact h.gone k h1 h2 hg
  · obtain ⟨L, x, rfl⟩ : ∃ L' x, L = L' ++ [x] := ⟨L.dropLast, L.getLast hL, (List.dropLast_concat_getLast hL).symm⟩
    obtain ⟨hx1, hx2, hx3, hx4⟩ := h.last
    rw [curL_snoc] at hk ⊢
    dsimp only at hk
    by_cases h8 : 8 ≤ x.2.length
    · have hs : syncM M ⟨x.1, x.2.length⟩ = upd M (nameOf x.1) (settled (M.at (nameOf x.1)).now) := if_pos h8
      have hne1 : nameOf (x.1 + 1) ≠ nameOf x.1 := fun e0 => by
        have := name_inj (j := x.1 + 1) (k := x.1) ⟨by omega, by omega⟩ hx1 e0
        omega
      have hth : ((syncM M ⟨x.1, x.2.length⟩).at (nameOf (x.1 + 1))).now.there = false := by
        rw [hs, upd_at_other _ _ hne1]
        cases ht : (M.at (nameOf (x.1 + 1))).now.there with
        | false => rfl
        | true =>
          have hm := (h.segs.2 (x.1 + 1) _).2 ⟨⟨by omega, by omega⟩, ht, rfl⟩
          obtain ⟨y, hy, hye⟩ := List.mem_map.1 hm
          simp only [Prod.mk.injEq] at hye
          rcases List.mem_append.1 hy with hy | hy
          · have := hx4 y hy; omega
          · simp at hy; subst hy; omega
      have hbs : (appF ((syncM M ⟨x.1, x.2.length⟩).at (nameOf (x.1 + 1))) (frm e)).now.bs = flatE [e] := by
        unfold appF
        rw [if_neg (by rw [hth]; decide), chg_now']
        simp [flatE]
      have hseg0 := segList_sync h.segs hx1 hx2
      rw [← hs] at hseg0
      have hseg := segList_new hseg0 (k := x.1 + 1) ⟨by omega, by omega⟩ (fun z hz => by
        obtain ⟨y, hy, rfl⟩ := List.mem_map.1 hz
        rcases List.mem_append.1 hy with hy | hy
        · have := hx4 y hy; dsimp only; omega
        · simp at hy; subst hy; dsimp only; omega) (hnow ((syncM M ⟨x.1, x.2.length⟩).at (nameOf (x.1 + 1))))
      rw [hbs] at hseg
      rw [putM, next_full h8, putL_full e h8]
      refine ⟨by simpa using hseg, fun z hz => ?_, fun z hz => ?_, ents_more h.ents hf, fun k h1 h2 hg => ?_⟩
      · rcases List.mem_append.1 hz with hz | hz
        · exact h.ne z hz
        · simp at hz; subst hz; simp
      · rcases List.mem_append.1 hz with hz | hz
        · exact h.ok z hz
        · simp at hz; subst hz; intro y hy; simp at hy; subst hy; exact he
      · by_cases hk1 : k = x.1 + 1
        · subst hk1; rw [upd_at, hnow] at hg; cases hg
        · have hne : nameOf k ≠ nameOf (x.1 + 1) := fun e0 => hk1 (name_inj ⟨h1, h2⟩ ⟨by omega, by omega⟩ e0)
          rw [upd_at_other _ _ hne, hs] at hg
          rw [upd_other _ _ hne, hs]
          by_cases hk2 : k = x.1
          · subst hk2; rw [settled_now hx2] at hg; cases hg
          · have hne2 : nameOf k ≠ nameOf x.1 := fun e0 => hk2 (name_inj ⟨h1, h2⟩ hx1 e0)
            rw [upd_at_other _ _ hne2] at hg
            rw [upd_other _ _ hne2]
            exact h.gone k h1 h2 hg
    · have hs : syncM M ⟨x.1, x.2.length⟩ = M := if_neg h8
      have hbs : (appF (M.at (nameOf x.1)) (frm e)).now.bs = flatE (x.2 ++ [e]) := by
        unfold appF
        rw [if_pos hx2, app_now, flatE_snoc, hx3]
        rfl
      have h0 := h.segs
      rw [List.map_append] at h0
      have hseg := segList_last (l := L.map fun x => (x.1, flatE x.2)) (k := x.1) (bs := flatE x.2) h0 (hnow (M.at (nameOf x.1)))
      rw [hbs] at hseg
      rw [putM, next_same (by omega) h8, putL_more e h8, hs]
      refine ⟨by simpa using hseg, fun z hz => ?_, fun z hz => ?_, ents_snoc h.ents hf, fun k h1 h2 hg => ?_⟩
      · rcases List.mem_append.1 hz with hz | hz
        · exact h.ne z (by simp [hz])
        · simp at hz; subst hz; simp
      · rcases List.mem_append.1 hz with hz | hz
        · exact h.ok z (by simp [hz])
        · simp at hz; subst hz
          intro y hy
          rcases List.mem_append.1 hy with hy | hy
          · exact h.ok x (by simp) y hy
          · simp at hy; subst hy; exact he
      · by_cases hk1 : k = x.1
        · subst hk1; rw [upd_at, hnow] at hg; cases hg
        · have hne : nameOf k ≠ nameOf x.1 := fun e0 => hk1 (name_inj ⟨h1, h2⟩ hx1 e0)
          rw [upd_at_other _ _ hne] at hg
          rw [upd_other _ _ hne]
          exact h.gone k h1 h2 hg

end Go.Proofs.YtmfemedcjgeheaaGreatDoor.Wl

namespace Go.Proofs.YtmfemedcjgeheaaGreatDoor
open Go.RowKit Go.Maps Go.Sort Dsk Wl

/-- bytes that are read, nobody's of the disk -/
def ReadsF (w : World) (o : Tags) (U : Nat) (a : Option Addr) (zs : List Int) : Prop := Reads w a zs ∧ ∀ x, a = some x → 0 < zs.length → o x.block = none ∧ x.block < U
/-- entries that came in -/
def EntsF (w : World) (o : Tags) (U : Nat) (a : Option Addr) (es : List Ent) : Prop :=
  ∀ i (h : i < es.length), ∃ b q A C, a = some ⟨b, q, none⟩ ∧ o b = none ∧ b < U ∧ U ≤ w.heap.size ∧ w.cell? ⟨b, q + i * 3, none⟩ = some (.int .u64 es[i].ix) ∧ w.cell? ⟨b, q + i * 3 + 1, none⟩ = some (.int .u64 es[i].term) ∧
    w.cell? ⟨b, q + i * 3 + 2, none⟩ = some (.slice A es[i].body.length C) ∧ ReadsF w o U A es[i].body ∧ (A = none → C = 0)

/-- as Step, but for one block that the caller made -/
structure StepU (u : Nat) (o : Tags) (w : World) (o' : Tags) (w' : World) : Prop where
  os : w'.os = w.os
  tape : w'.tape = w.tape
  output : w'.output = w.output
  size : w.heap.size ≤ w'.heap.size
  block : ∀ k, k < w.heap.size → k ≠ u → o k = none → w'.heap[k]? = w.heap[k]?
  free : ∀ k, k < w.heap.size → o k = none → o' k = none

section
variable {w w' w0 w1 w2 : World} {o o' o1 o2 : Tags} {u U : Nat} {a : Option Addr} {zs : List Int} {es : List Ent}
theorem Step.toU (h : Step o w o' w') (u : Nat) : StepU u o w o' w' := ⟨h.os, h.tape, h.output, h.size, fun k hk _ e => h.block k hk e, fun k hk e => h.free k hk e (by simp [Value.ownBlock])⟩
theorem StepU.trans (h : StepU u o w o1 w1) (k : StepU u o1 w1 o2 w2) : StepU u o w o2 w2 :=
  ⟨k.os.trans h.os, k.tape.trans h.tape, k.output.trans h.output, Nat.le_trans h.size k.size,
   fun j hj hu e => (k.block j (Nat.lt_of_lt_of_le hj h.size) hu (h.free j hj e)).trans (h.block j hj hu e),
   fun j hj e => k.free j (Nat.lt_of_lt_of_le hj h.size) (h.free j hj e)⟩
theorem StepU.refl (u : Nat) (o : Tags) (w : World) : StepU u o w o w := ⟨rfl, rfl, rfl, Nat.le_refl _, fun _ _ _ _ => rfl, fun _ _ e => e⟩
theorem StepU.set (b i : Nat) (o : Tags) (w : World) (v : Value) : StepU b o w o (w.setCell ⟨b, i, none⟩ v) := ⟨rfl, rfl, rfl, by simp [World.setCell], fun k _ hk _ => Below.heap_setCell _ _ _ _ fun e => hk (by rw [e]), fun _ _ e => e⟩
theorem StepU.behind (h : Step o w o1 w1) (k : StepU u o1 w1 o2 w2) (hu : w.heap.size ≤ u) : Step o w o2 w2 :=
  ⟨k.os.trans h.os, k.tape.trans h.tape, k.output.trans h.output, Nat.le_trans h.size k.size,
   fun j hj e => (k.block j (Nat.lt_of_lt_of_le hj h.size) (by omega) (h.free j hj e (by simp [Value.ownBlock]))).trans (h.block j hj e),
   fun j hj e _ => k.free j (Nat.lt_of_lt_of_le hj h.size) (h.free j hj e (by simp [Value.ownBlock]))⟩

theorem ReadsF.stepU (h : ReadsF w o U a zs) (hs : StepU u o w o' w') (hu : U ≤ u) (hU : U ≤ w.heap.size) : ReadsF w' o' U a zs := by
  refine ⟨⟨fun i hi => ?_, h.1.hr, h.1.hl⟩, fun x hx hz => ?_⟩
  · obtain ⟨x, hx, hlt, hc⟩ := h.1.cell i hi
    obtain ⟨ho, hxU⟩ := h.2 x hx (by omega)
    refine ⟨x, hx, Nat.lt_of_lt_of_le hlt hs.size, ?_⟩
    rw [World.cell?_of_block (w := w) (w' := w') (a := x.add i) (by rw [add_block]; exact hs.block x.block hlt (by omega) ho)]
    exact hc
  · obtain ⟨ho, hxU⟩ := h.2 x hx hz
    exact ⟨hs.free x.block (by omega) ho, hxU⟩
theorem EntsF.stepU (h : EntsF w o U a es) (hs : StepU u o w o' w') (hu : U ≤ u) : EntsF w' o' U a es := fun i hi => by
  obtain ⟨b, q, A, C, rfl, ho, hbU, hU, c0, c1, c2, hr, hn⟩ := h i hi
  have hb := hs.block b (by omega) (by omega) ho
  exact ⟨b, q, A, C, rfl, hs.free b (by omega) ho, hbU, Nat.le_trans hU hs.size, (World.cell?_of_block hb).trans c0, (World.cell?_of_block hb).trans c1, (World.cell?_of_block hb).trans c2, hr.stepU hs hu hU, hn⟩
theorem EntsF.below (h : EntsF w o U a es) (hb : Below w.heap.size w w') : EntsF w' o U a es := fun i hi => by
  obtain ⟨b, q, A, C, rfl, ho, hbU, hU, c0, c1, c2, hr, hn⟩ := h i hi
  have hbl : b < w.heap.size := by omega
  exact ⟨b, q, A, C, rfl, ho, hbU, Nat.le_trans hU hb.size, (hb.cell (p := ⟨b, _, none⟩) hbl).trans c0, (hb.cell (p := ⟨b, _, none⟩) hbl).trans c1, (hb.cell (p := ⟨b, _, none⟩) hbl).trans c2, ⟨hr.1.below hb, hr.2⟩, hn⟩
end

def okIx : Nat → List Ent → Bool
  | _, [] => true
  | l, e :: r => follows l e.ix && okIx e.ix r
def short (es : List Ent) : Bool := es.all fun e => decide (e.body.length ≤ 2000)
/-- why entries may not go behind an index; 0: they may -/
def refuse (l : Nat) (es : List Ent) : Int := if okIx l es = true then if short es = true then 0 else 3 else 2

set_option maxRecDepth 100000 in
set_option maxHeartbeats 2000000 in
theorem refusal_any (l : Nat) (es : List Ent) (a : Option Addr) (c : Nat) (o : Tags) (U : Nat) (w : World) (hs : EntsF w o U a es) (hn : es.length < 1000000000) :
    Calls Tryz.prog 44 #[.int .u64 (l : Int), .slice a es.length c] w fun e w' => e = .returned (.int .i64 (refuse l es)) ∧ Below w.heap.size w w' := by
  have HS := Lib.hid hs
  clear hs
  go_enter Tryz.func44, Tryz.ntmps44
  go_wp2_with fail
  go_loopw [0, 11] (fun v i wr => ∃ (k m : Nat), k ≤ es.length ∧ i = .int .i64 (k : Int) ∧ v = .int .u64 (m : Int) ∧ okIx l es = okIx m (es.drop k) ∧ Below w.heap.size w wr) (fun _ i _ => es.length - (intOf i).toNat)
  case atStart => exact ⟨0, l, Nat.zero_le _, rfl, rfl, rfl, Below.refl _ _⟩
  case round =>
    obtain ⟨k, m, hk, rfl, rfl, hok, hb⟩ := hrel
    by_cases hkl : k < es.length
    · obtain ⟨b, q, A, C, rfl, _, _, hU, c0, c1, c2, _, _⟩ := (EntsF.below HS.out hb) k hkl
      have HOK := Lib.hid hok
      have HB := Lib.hid hb
      have HF := Lib.hid (follows_any m es[k].ix)
      obtain ⟨x, hx⟩ : ∃ x, x = es[k] := ⟨_, rfl⟩
      rw [← hx] at c0 c1 c2 HF
      have HX := Lib.hid hx
      have hal : Below wr.heap.size wr (wr.alloc (.cells #[.int .u64 (x.ix : Int), .int .u64 (x.term : Int), .slice A x.body.length C] 55)) := (Below.refl _ _).alloc (Nat.le_refl _) _
      have HAL := Lib.hid hal
      have HDR := Lib.hid (show es.drop k = x :: es.drop (k + 1) by rw [hx]; exact List.drop_eq_getElem_cons hkl)
      clear hok hb hU hx hal
      go_wp2_with fail
      refine (HF.out _).mono ?_
      rintro r w2 ⟨rfl, rfl⟩
      cases hf : follows m x.ix
      · have HE := Lib.hid (show refuse l es = 2 by unfold refuse; rw [HOK.out, HDR.out, okIx, hf]; rfl)
        clear hf
        go_wp2_with fail
        go_ret
        rw [HE.out]
        exact ⟨rfl, HB.out.trans (HAL.out.mono HB.out.size)⟩
      · have HN := Lib.hid (show okIx l es = okIx x.ix (es.drop (k + 1)) by rw [HOK.out, HDR.out, okIx, hf]; rfl)
        clear hf
        go_wp2_with fail
        go_roundw
        case rel => exact ⟨k + 1, x.ix, hkl, by go_num, rfl, HN.out, HB.out.trans (HAL.out.mono HB.out.size)⟩
        case measure => simp [intOf]; omega
    · obtain rfl : k = es.length := by omega
      rw [List.drop_length] at hok
      have HOK := Lib.hid (show okIx l es = true from hok)
      have HB := Lib.hid hb
      clear hok hb
      go_wp2_with fail
      go_loopw [25] (fun i wx => ∃ (k : Nat), k ≤ es.length ∧ i = .int .i64 (k : Int) ∧ short (es.take k) = true ∧ Below w.heap.size w wx) (fun i _ => es.length - (intOf i).toNat)
      case atStart => exact ⟨0, Nat.zero_le _, rfl, rfl, HB.out⟩
      case round =>
        clear HB
        obtain ⟨j, hj, rfl, hsh, hb⟩ := hrel
        by_cases hjl : j < es.length
        · obtain ⟨b, q, A, C, rfl, _, _, hU, c0, c1, c2, _, _⟩ := (EntsF.below HS.out hb) j hjl
          have HB := Lib.hid hb
          obtain ⟨x, hx⟩ : ∃ x, x = es[j] := ⟨_, rfl⟩
          rw [← hx] at c0 c1 c2
          have HAL := Lib.hid (show Below wr.heap.size wr (wr.alloc (.cells #[.int .u64 (x.ix : Int), .int .u64 (x.term : Int), .slice A x.body.length C] 55)) from (Below.refl _ _).alloc (Nat.le_refl _) _)
          have HTK := Lib.hid (show short (es.take (j + 1)) = decide (x.body.length ≤ 2000) by
            rw [List.take_add_one, List.getElem?_eq_getElem hjl, Option.toList_some]
            unfold short at hsh ⊢
            rw [List.all_append, hsh, ← hx]
            simp)
          have HX := Lib.hid hx
          clear hsh hb hU hx
          by_cases hlong : x.body.length ≤ 2000
          · have hd : decide ((2000 : Int) < (x.body.length : Int)) = false := by simp; omega
            have HT2 := Lib.hid (HTK.out.trans (decide_eq_true hlong))
            clear HTK
            go_wp2_with fail
            go_roundw
            case rel => exact ⟨j + 1, hjl, by go_num, HT2.out, HB.out.trans (HAL.out.mono HB.out.size)⟩
            case measure => simp [intOf]; omega
          · have hd : decide ((2000 : Int) < (x.body.length : Int)) = true := by simp; omega
            have HE := Lib.hid (show refuse l es = 3 by
              have h1 : short es = false := by
                unfold short
                rw [List.all_eq_false]
                exact ⟨x, by rw [HX.out]; exact List.getElem_mem hjl, by simp; omega⟩
              unfold refuse
              rw [HOK.out, h1]; rfl)
            clear HTK
            go_wp2_with fail
            go_ret
            rw [HE.out]
            exact ⟨rfl, HB.out.trans (HAL.out.mono HB.out.size)⟩
        · obtain rfl : j = es.length := by omega
          rw [List.take_length] at hsh
          have HE := Lib.hid (show refuse l es = 0 by unfold refuse; rw [HOK.out, hsh]; rfl)
          have HB := Lib.hid hb
          clear hsh hb
          go_wp2_with fail
          go_ret
          rw [HE.out]
          exact ⟨rfl, HB.out⟩

/-- the box of the last segment -/
def SBox (w : World) (o : Tags) (sb : Nat) (c : Cur) : Prop := (∃ x y z, w.heap[sb]? = some (.cells #[.int .i64 (c.num : Int), x, y, .int .i64 (c.n : Int), z] 75 (0, 0))) ∧ o sb = none
/-- a disk's Append, told by what it leaves -/
def AppendsTo (B g : Nat) (M : Files) (N : Nat) (l : Name) (zs : List Int) (er : Int) (M2 : Files) (N2 : Nat) : Prop := ∀ (w : World) (o : Tags) (a : Option Addr) (cap : Nat), DiskAt w B o g M N → B ≤ w.heap.size → Reads w a zs → (a = none → cap = 0) →
  Calls Tryz.prog 83 #[.pointer (some ⟨g, 0, none⟩), .string ⟨l.toArray⟩, .slice a zs.length cap] w fun e w' => e = .returned (.int .i64 er) ∧ ∃ o', DiskAt w' B o' g M2 N2 ∧ Step o w o' w'

theorem SBox.below {w w' : World} {o : Tags} {sb : Nat} {c : Cur} (h : SBox w o sb c) (hb : Below w.heap.size w w') : SBox w' o sb c := by
  obtain ⟨⟨x, y, z, h1⟩, h2⟩ := h
  exact ⟨⟨x, y, z, (hb.block sb (lt_of_block h1)).trans h1⟩, h2⟩
theorem SBox.step {w w' : World} {o o' : Tags} {sb : Nat} {c : Cur} (h : SBox w o sb c) (hs : Step o w o' w') : SBox w' o' sb c := by
  obtain ⟨⟨x, y, z, h1⟩, h2⟩ := h
  exact ⟨⟨x, y, z, (hs.block sb (lt_of_block h1) h2).trans h1⟩, hs.free sb (lt_of_block h1) h2 (by simp [Value.ownBlock])⟩

end Go.Proofs.YtmfemedcjgeheaaGreatDoor
