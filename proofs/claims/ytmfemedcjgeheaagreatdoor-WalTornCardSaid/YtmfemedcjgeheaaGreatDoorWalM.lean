/- Plain mathematics of layer 10: entries and their records; which entries bytes are; what follows what. No program is spoken of here. -/
import Derived.Test.YtmfemedcjgeheaaGreatDoorFrames
import Derived.Test.YtmfemedcjgeheaaGreatDoorDskM
namespace Go.Proofs.YtmfemedcjgeheaaGreatDoor.Wl
open Num (dec enc put)

structure Ent where
  ix : Nat
  term : Nat
  body : List Int
deriving DecidableEq

def Ent.ok (e : Ent) : Prop := 1 ≤ e.ix ∧ e.ix < 18446744073709551616 ∧ e.term < 18446744073709551616 ∧ e.body.length ≤ 2000 ∧ ∀ x ∈ e.body, 0 ≤ x ∧ x ≤ 255

/-- an entry's record -/
def recOf (e : Ent) : List Int := put e.ix ++ (put e.term ++ (put e.body.length ++ e.body))

/-- the entry of a record -/
def parseOf (bs : List Int) : Option Ent :=
  match dec 10 0 0 bs with
  | none => none
  | some (n, k) => match dec 10 0 0 (bs.drop k) with
    | none => none
    | some (t, j) => match dec 10 0 0 (bs.drop (k + j)) with
      | none => none
      | some (m, i) => if m ≤ 2000 ∧ k + j + i + m = bs.length ∧ n ≠ 0 then some ⟨n, t, bs.drop (k + j + i)⟩ else none

theorem rec_len {e : Ent} (h : e.ok) : 3 ≤ (recOf e).length ∧ (recOf e).length ≤ 2030 := by
  have h1 := Num.put_len e.ix
  have h2 := Num.put_len e.term
  have h3 := Num.put_len e.body.length
  have := h.2.2.2.1
  simp [recOf]
  omega

theorem put_range {n : Nat} (hn : n < 18446744073709551616) : ∀ x ∈ put n, 0 ≤ x ∧ x ≤ 255 := Num.enc_range 9 n (by omega)

theorem rec_range {e : Ent} (h : e.ok) : ∀ x ∈ recOf e, 0 ≤ x ∧ x ≤ 255 := by
  intro x hx
  simp only [recOf, List.mem_append] at hx
  rcases hx with hx | hx | hx | hx
  · exact put_range h.2.1 x hx
  · exact put_range h.2.2.1 x hx
  · exact put_range (by have := h.2.2.2.1; omega) x hx
  · exact h.2.2.2.2 x hx

theorem parse_rec {e : Ent} (h : e.ok) : parseOf (recOf e) = some e := by
  have h1 : dec 10 0 0 (recOf e) = some (e.ix, (put e.ix).length) := Num.dec_put _ h.2.1 _
  have d1 : (recOf e).drop (put e.ix).length = put e.term ++ (put e.body.length ++ e.body) := by simp [recOf]
  have h2 : dec 10 0 0 (put e.term ++ (put e.body.length ++ e.body)) = some (e.term, (put e.term).length) := Num.dec_put _ h.2.2.1 _
  have d2 : (recOf e).drop ((put e.ix).length + (put e.term).length) = put e.body.length ++ e.body := by
    rw [← List.drop_drop, d1, List.drop_left]
  have h3 : dec 10 0 0 (put e.body.length ++ e.body) = some (e.body.length, (put e.body.length).length) := Num.dec_put _ (by have := h.2.2.2.1; omega) _
  have d3 : (recOf e).drop ((put e.ix).length + (put e.term).length + (put e.body.length).length) = e.body := by
    rw [← List.drop_drop, d2, List.drop_left]
  unfold parseOf
  simp only [h1, d1, h2, d2, h3, d3]
  rw [if_pos ⟨h.2.2.2.1, by simp [recOf]; omega, by have := h.1; omega⟩]

theorem parse_is {bs : List Int} {e : Ent} (hr : ∀ x ∈ bs, 0 ≤ x ∧ x ≤ 255) (h : parseOf bs = some e) : e.ok ∧ recOf e = bs := by
  unfold parseOf at h
  cases h1 : dec 10 0 0 bs with
  | none => simp [h1] at h
  | some p1 =>
    obtain ⟨n, k⟩ := p1
    simp only [h1] at h
    cases h2 : dec 10 0 0 (bs.drop k) with
    | none => simp [h2] at h
    | some p2 =>
      obtain ⟨t, j⟩ := p2
      simp only [h2] at h
      cases h3 : dec 10 0 0 (bs.drop (k + j)) with
      | none => simp [h3] at h
      | some p3 =>
        obtain ⟨m, i⟩ := p3
        simp only [h3] at h
        split at h
        · rename_i hc
          obtain ⟨hm, hl, hn⟩ := hc
          have e2 : Ent.mk n t (bs.drop (k + j + i)) = e := by simpa using h
          have b1 := Num.dec_lt 10 0 0 bs n k (by omega) (by simp) hr h1
          have b2 := Num.dec_lt 10 0 0 _ t j (by omega) (by simp) (fun x hx => hr x (List.mem_of_mem_drop hx)) h2
          have i1 := Num.dec_is hr h1
          have i2 := Num.dec_is (fun x hx => hr x (List.mem_of_mem_drop hx)) h2
          have i3 := Num.dec_is (fun x hx => hr x (List.mem_of_mem_drop hx)) h3
          have hbl : (bs.drop (k + j + i)).length = m := by rw [List.length_drop]; omega
          subst e2
          refine ⟨⟨by dsimp only; omega, b1.1, b2.1, by dsimp only; omega, fun x hx => hr x (List.mem_of_mem_drop hx)⟩, ?_⟩
          show put n ++ (put t ++ (put (bs.drop (k + j + i)).length ++ bs.drop (k + j + i))) = bs
          rw [hbl, ← i1.1, ← i2.1, ← i3.1]
          rw [← List.drop_drop (i := i) (j := k + j), List.take_append_drop, ← List.drop_drop (i := j) (j := k), List.take_append_drop, List.take_append_drop]
        · cases h

/-- the last entry's index; 0: there is none -/
def lastIx (l : List Ent) : Nat := match l.getLast? with
  | none => 0
  | some e => e.ix
theorem lastIx_nil : lastIx [] = 0 := rfl
theorem lastIx_snoc (l : List Ent) (e : Ent) : lastIx (l ++ [e]) = e.ix := by simp [lastIx]
theorem lastIx_lt {l : List Ent} (h : ∀ e ∈ l, e.ok) : lastIx l < 18446744073709551616 := by
  unfold lastIx
  cases hl : l.getLast? with
  | none => simp
  | some e => exact (h e (List.mem_of_getLast? hl)).2.1

def follows (last ix : Nat) : Bool := decide (0 < ix) && (decide (last = 0) || decide (ix ≤ (last + 1) % 18446744073709551616))

/-- the entries whose index is below -/
def cutTo (ix : Nat) (l : List Ent) : List Ent := (l.reverse.dropWhile fun e => decide (ix ≤ e.ix)).reverse
theorem cutTo_nil (ix : Nat) : cutTo ix [] = [] := rfl
theorem cutTo_snoc_yes {ix : Nat} {l : List Ent} {e : Ent} (h : ix ≤ e.ix) : cutTo ix (l ++ [e]) = cutTo ix l := by simp [cutTo, h]
theorem cutTo_snoc_no {ix : Nat} {l : List Ent} {e : Ent} (h : ¬ ix ≤ e.ix) : cutTo ix (l ++ [e]) = l ++ [e] := by simp [cutTo, h]
theorem snoc_of {l : List Ent} (h : l ≠ []) : ∃ r e, l = r ++ [e] := ⟨l.dropLast, l.getLast h, (List.dropLast_concat_getLast h).symm⟩
theorem cutTo_stop {ix : Nat} {l : List Ent} (h : l = [] ∨ ¬ ix ≤ lastIx l) : cutTo ix l = l := by
  rcases h with rfl | h
  · rfl
  · by_cases hl : l = []
    · subst hl; rfl
    · obtain ⟨r, e, rfl⟩ := snoc_of hl
      rw [lastIx_snoc] at h
      exact cutTo_snoc_no h
theorem cutTo_more {ix : Nat} {l : List Ent} (h : l ≠ []) (hi : ix ≤ lastIx l) : cutTo ix l = cutTo ix (l.take (l.length - 1)) := by
  obtain ⟨r, e, rfl⟩ := snoc_of h
  rw [lastIx_snoc] at hi
  rw [cutTo_snoc_yes hi]
  simp
theorem cutTo_mem {ix : Nat} {l : List Ent} {e : Ent} (h : e ∈ cutTo ix l) : e ∈ l := by
  unfold cutTo at h
  rw [List.mem_reverse] at h
  exact List.mem_reverse.1 ((List.dropWhile_sublist _).subset h)

def follow (l : List Ent) (e : Ent) : Option (List Ent) := if follows (lastIx l) e.ix then some (cutTo e.ix l ++ [e]) else none
theorem follow_ok {l l' : List Ent} {e : Ent} (hl : ∀ e ∈ l, e.ok) (he : e.ok) (h : follow l e = some l') : ∀ e ∈ l', e.ok := by
  unfold follow at h
  split at h
  · cases h
    intro x hx
    rcases List.mem_append.1 hx with hx | hx
    · exact hl x (cutTo_mem hx)
    · simp at hx; subst hx; exact he
  · cases h
theorem follow_last {l l' : List Ent} {e : Ent} (h : follow l e = some l') : lastIx l' = e.ix ∧ l' ≠ [] ∧ follows (lastIx l) e.ix = true := by
  unfold follow at h
  split at h
  · cases h
    exact ⟨lastIx_snoc _ _, by simp, by assumption⟩
  · cases h
theorem follow_len {l l' : List Ent} {e : Ent} (h : follow l e = some l') : l'.length ≤ l.length + 1 := by
  unfold follow at h
  split at h
  · cases h
    have h1 : (cutTo e.ix l).length ≤ l.length := by
      unfold cutTo
      rw [List.length_reverse]
      have := (List.dropWhile_sublist (l := l.reverse) (fun x => decide (e.ix ≤ x.ix))).length_le
      simpa using this
    simp
    omega
  · cases h

/-- entries behind entries, one by one -/
def chain : List Ent → List Ent → Option (List Ent)
  | E, [] => some E
  | E, e :: r => match follow E e with
    | none => none
    | some E' => chain E' r
theorem chain_nil (E : List Ent) : chain E [] = some E := rfl
theorem chain_cons {E E' : List Ent} {e : Ent} (r : List Ent) (h : follow E e = some E') : chain E (e :: r) = chain E' r := by simp [chain, h]
theorem chain_append : ∀ (E a b : List Ent) {E' : List Ent}, chain E a = some E' → chain E (a ++ b) = chain E' b
  | E, [], b, E', h => by cases h; rfl
  | E, e :: a, b, E', h => by
    cases hf : follow E e with
    | none => simp [chain, hf] at h
    | some E1 =>
      rw [chain_cons a hf] at h
      rw [List.cons_append, chain_cons (a ++ b) hf]
      exact chain_append E1 a b h
theorem chain_snoc {E E' : List Ent} {l : List Ent} (e : Ent) (h : chain E l = some E') : chain E (l ++ [e]) = follow E' e := by
  rw [chain_append _ _ _ h]
  simp only [chain]
  cases follow E' e <;> rfl
theorem chain_split : ∀ (E a b : List Ent) {E2 : List Ent}, chain E (a ++ b) = some E2 → ∃ E1, chain E a = some E1 ∧ chain E1 b = some E2
  | E, [], b, E2, h => ⟨E, rfl, h⟩
  | E, e :: a, b, E2, h => by
    cases hf : follow E e with
    | none => simp [chain, hf] at h
    | some E1 =>
      rw [List.cons_append, chain_cons (a ++ b) hf] at h
      obtain ⟨E', h1, h2⟩ := chain_split E1 a b h
      exact ⟨E', by rw [chain_cons a hf]; exact h1, h2⟩
theorem chain_ok : ∀ (E l : List Ent) {E' : List Ent}, (∀ e ∈ E, e.ok) → (∀ e ∈ l, e.ok) → chain E l = some E' → ∀ e ∈ E', e.ok
  | E, [], E', hE, _, h => by cases h; exact hE
  | E, e :: l, E', hE, hl, h => by
    cases hf : follow E e with
    | none => simp [chain, hf] at h
    | some E1 =>
      rw [chain_cons l hf] at h
      exact chain_ok E1 l (follow_ok hE (hl e (by simp)) hf) (fun x hx => hl x (by simp [hx])) h

/-- an entry's frame; entries' frames, one behind the other -/
def frm (e : Ent) : List Int := Frame.frameOf (recOf e)
def flatE (l : List Ent) : List Int := (l.map frm).flatten
theorem flatE_nil : flatE [] = [] := rfl
theorem flatE_cons (e : Ent) (l : List Ent) : flatE (e :: l) = frm e ++ flatE l := by simp [flatE]
theorem flatE_append (a b : List Ent) : flatE (a ++ b) = flatE a ++ flatE b := by simp [flatE]
theorem flatE_snoc (l : List Ent) (e : Ent) : flatE (l ++ [e]) = flatE l ++ frm e := by simp [flatE]
theorem frm_range {e : Ent} (h : e.ok) : ∀ x ∈ frm e, 0 ≤ x ∧ x ≤ 255 := Frame.frame_range (by have := (rec_len h).2; omega) (rec_range h)
theorem frm_len {e : Ent} (h : e.ok) : 9 ≤ (frm e).length ∧ (frm e).length ≤ 2050 := by
  have := rec_len h
  have h2 := Num.put_len (recOf e).length
  rw [frm, Frame.frame_len]
  omega
theorem flatE_range : ∀ {l : List Ent}, (∀ e ∈ l, e.ok) → ∀ x ∈ flatE l, 0 ≤ x ∧ x ≤ 255
  | [], _ => fun x hx => by cases hx
  | e :: l, h => fun x hx => by
    rw [flatE_cons] at hx
    rcases List.mem_append.1 hx with hx | hx
    · exact frm_range (h e (by simp)) x hx
    · exact flatE_range (fun e he => h e (by simp [he])) x hx
theorem flatE_len : ∀ {l : List Ent}, (∀ e ∈ l, e.ok) → 9 * l.length ≤ (flatE l).length ∧ (flatE l).length ≤ 2050 * l.length
  | [], _ => by simp [flatE]
  | e :: l, h => by
    have h1 := frm_len (h e (by simp))
    have h2 := flatE_len (l := l) (fun e he => h e (by simp [he]))
    rw [flatE_cons]
    simp
    omega

/-- the entry that bytes begin with, and how many bytes its frame has -/
def step1 (bs : List Int) : Option (Ent × Nat) := match Frame.firstOf bs with
  | none => none
  | some (r, n) => match parseOf r with
    | none => none
    | some e => some (e, n)
theorem parse_nil : parseOf [] = none := rfl
theorem step1_none {bs : List Int} (h : Frame.firstOf bs = none) : step1 bs = none := by simp [step1, h]
theorem step1_bad {bs r : List Int} {n : Nat} (h : Frame.firstOf bs = some (r, n)) (hp : parseOf r = none) : step1 bs = none := by simp [step1, h, hp]
theorem step1_some {bs r : List Int} {n : Nat} {e : Ent} (h : Frame.firstOf bs = some (r, n)) (hp : parseOf r = some e) : step1 bs = some (e, n) := by simp [step1, h, hp]
theorem step1_frm {e : Ent} (h : e.ok) (rest : List Int) : step1 (frm e ++ rest) = some (e, (frm e).length) := by
  refine step1_some (r := recOf e) ?_ (parse_rec h)
  have := rec_len h
  exact Frame.first_frame (recOf e) rest (by omega)
theorem step1_is {bs : List Int} {e : Ent} {n : Nat} (hr : ∀ x ∈ bs, 0 ≤ x ∧ x ≤ 255) (h : step1 bs = some (e, n)) : e.ok ∧ bs.take n = frm e ∧ n = (frm e).length ∧ n ≤ bs.length := by
  unfold step1 at h
  cases hf : Frame.firstOf bs with
  | none => simp [hf] at h
  | some p =>
    obtain ⟨r, m⟩ := p
    simp only [hf] at h
    cases hp : parseOf r with
    | none => simp [hp] at h
    | some e' =>
      simp only [hp, Option.some.injEq, Prod.mk.injEq] at h
      obtain ⟨rfl, rfl⟩ := h
      obtain ⟨h1, h2, h3, h4⟩ := Frame.first_is hr hf
      have hrr : ∀ x ∈ r, 0 ≤ x ∧ x ≤ 255 := by
        intro x hx
        have : x ∈ Frame.frameOf r := by simp [Frame.frameOf, Frame.txt, hx]
        rw [← h3] at this
        exact hr x (List.mem_of_mem_take this)
      obtain ⟨h5, h6⟩ := parse_is hrr hp
      rw [← h6] at h2 h3
      exact ⟨h5, h3, h2, h4⟩

/-- record by record: how many bytes are good, the records, the entries then; whether all is good -/
def walk : Nat → List Int → Nat → List Ent → List Ent → Nat × List Ent × List Ent × Bool
  | 0, _, good, recs, ents => (good, recs, ents, false)
  | f + 1, bs, good, recs, ents =>
    if bs.length ≤ good then (good, recs, ents, true)
    else match step1 (bs.drop good) with
      | none => (good, recs, ents, false)
      | some (e, n) => match follow ents e with
        | none => (good, recs, ents, false)
        | some E => walk f bs (good + n) (recs ++ [e]) E
theorem walk_end {f : Nat} {bs : List Int} {good : Nat} (recs ents : List Ent) (h : bs.length ≤ good) : walk (f + 1) bs good recs ents = (good, recs, ents, true) := by simp [walk, h]
theorem walk_none {f : Nat} {bs : List Int} {good : Nat} (recs ents : List Ent) (h : ¬ bs.length ≤ good) (hs : step1 (bs.drop good) = none) : walk (f + 1) bs good recs ents = (good, recs, ents, false) := by simp [walk, h, hs]
theorem walk_stop {f : Nat} {bs : List Int} {good n : Nat} {e : Ent} (recs : List Ent) {ents : List Ent} (h : ¬ bs.length ≤ good) (hs : step1 (bs.drop good) = some (e, n)) (hf : follow ents e = none) : walk (f + 1) bs good recs ents = (good, recs, ents, false) := by simp [walk, h, hs, hf]
theorem walk_more {f : Nat} {bs : List Int} {good n : Nat} {e : Ent} (recs : List Ent) {ents E : List Ent} (h : ¬ bs.length ≤ good) (hs : step1 (bs.drop good) = some (e, n)) (hf : follow ents e = some E) : walk (f + 1) bs good recs ents = walk f bs (good + n) (recs ++ [e]) E := by simp [walk, h, hs, hf]

/-- the records that a walk tells, behind those it began with -/
structure Walked (bs : List Int) (good : Nat) (recs ents : List Ent) (R : Nat × List Ent × List Ent × Bool) : Prop where
  more : ∃ l, R.2.1 = recs ++ l ∧ (∀ e ∈ l, e.ok) ∧ chain ents l = some R.2.2.1 ∧ (bs.drop good).take (flatE l).length = flatE l ∧ R.1 = good + (flatE l).length ∧ (flatE l).length ≤ bs.length - good
  all : R.2.2.2 = true → bs.length ≤ R.1

theorem walked : ∀ (f : Nat) {bs : List Int} (good : Nat) (recs ents : List Ent), (∀ x ∈ bs, 0 ≤ x ∧ x ≤ 255) → Walked bs good recs ents (walk f bs good recs ents)
  | 0, bs, good, recs, ents, _ => ⟨⟨[], by simp [walk], (fun e he => by cases he), rfl, by simp [flatE], by simp [walk, flatE], by simp [flatE]⟩, fun h => by simp [walk] at h⟩
  | f + 1, bs, good, recs, ents, hr => by
    have stop : Walked bs good recs ents (good, recs, ents, false) := ⟨⟨[], by simp, (fun e he => by cases he), rfl, by simp [flatE], by simp [flatE], by simp [flatE]⟩, fun h => by cases h⟩
    by_cases h : bs.length ≤ good
    · rw [walk_end recs ents h]
      exact ⟨⟨[], by simp, (fun e he => by cases he), rfl, by simp [flatE], by simp [flatE], by simp [flatE]⟩, fun _ => h⟩
    · cases hs : step1 (bs.drop good) with
      | none => rw [walk_none recs ents h hs]; exact stop
      | some p =>
        obtain ⟨e, n⟩ := p
        obtain ⟨h1, h2, h3, h4⟩ := step1_is (fun x hx => hr x (List.mem_of_mem_drop hx)) hs
        rw [List.length_drop] at h4
        cases hf : follow ents e with
        | none => rw [walk_stop recs h hs hf]; exact stop
        | some E =>
          rw [walk_more recs h hs hf]
          obtain ⟨⟨l, m1, m2, m3, m4, m5, m6⟩, ha⟩ := walked f (good + n) (recs ++ [e]) E hr
          refine ⟨⟨e :: l, by rw [m1]; simp, fun x hx => ?_, by rw [chain_cons l hf]; exact m3, ?_, ?_, ?_⟩, ha⟩
          · rcases List.mem_cons.1 hx with rfl | hx
            · exact h1
            · exact m2 x hx
          · rw [flatE_cons, List.length_append, List.take_add, ← h3, h2, List.drop_drop, m4]
          · rw [m5, flatE_cons, List.length_append, ← h3]; omega
          · rw [flatE_cons, List.length_append, ← h3]; omega

/-- frames of entries that follow: all are told, and the walk goes on behind them -/
theorem walk_flat : ∀ (l : List Ent) (f : Nat) (pre rest : List Int) (recs ents : List Ent) {E : List Ent}, (∀ e ∈ l, e.ok) → chain ents l = some E →
    walk (f + l.length) (pre ++ (flatE l ++ rest)) pre.length recs ents = walk f (pre ++ (flatE l ++ rest)) (pre.length + (flatE l).length) (recs ++ l) E
  | [], f, pre, rest, recs, ents, E, _, h => by cases h; simp [flatE]
  | e :: l, f, pre, rest, recs, ents, E, hl, h => by
    cases hf : follow ents e with
    | none => simp [chain, hf] at h
    | some E1 =>
      rw [chain_cons l hf] at h
      have he := hl e (by simp)
      have hn := frm_len he
      have hnl : ¬ (pre ++ (flatE (e :: l) ++ rest)).length ≤ pre.length := by rw [flatE_cons]; simp; omega
      have hs : step1 ((pre ++ (flatE (e :: l) ++ rest)).drop pre.length) = some (e, (frm e).length) := by
        rw [List.drop_left, flatE_cons, List.append_assoc]
        exact step1_frm he _
      rw [List.length_cons, show f + (l.length + 1) = (f + l.length) + 1 by omega, walk_more recs hnl hs hf]
      have ih := walk_flat l f (pre ++ frm e) rest (recs ++ [e]) E1 (fun x hx => hl x (by simp [hx])) h
      rw [show pre ++ (flatE (e :: l) ++ rest) = pre ++ frm e ++ (flatE l ++ rest) by rw [flatE_cons]; simp]
      rw [show pre.length + (frm e).length = (pre ++ frm e).length by simp, ih]
      congr 1
      · rw [flatE_cons]; simp; omega
      · simp

/-- fuel enough is fuel enough -/
theorem walk_fuel : ∀ (f g : Nat) (bs : List Int) (good : Nat) (recs ents : List Ent), (∀ x ∈ bs, 0 ≤ x ∧ x ≤ 255) → bs.length - good < f → bs.length - good < g → walk f bs good recs ents = walk g bs good recs ents
  | 0, _, _, _, _, _, _, hf, _ => absurd hf (by omega)
  | _ + 1, 0, _, _, _, _, _, _, hg => absurd hg (by omega)
  | f + 1, g + 1, bs, good, recs, ents, hr, hf, hg => by
    by_cases h : bs.length ≤ good
    · rw [walk_end recs ents h, walk_end recs ents h]
    · cases hs : step1 (bs.drop good) with
      | none => rw [walk_none recs ents h hs, walk_none recs ents h hs]
      | some p =>
        obtain ⟨e, n⟩ := p
        obtain ⟨h1, h2, h3, h4⟩ := step1_is (fun x hx => hr x (List.mem_of_mem_drop hx)) hs
        have := frm_len h1
        cases hfo : follow ents e with
        | none => rw [walk_stop recs h hs hfo, walk_stop recs h hs hfo]
        | some E =>
          rw [walk_more recs h hs hfo, walk_more recs h hs hfo]
          exact walk_fuel f g bs (good + n) (recs ++ [e]) E hr (by omega) (by omega)

/-- all of a segment's bytes are frames of entries that follow -/
theorem walk_whole {l : List Ent} {ents E : List Ent} (hl : ∀ e ∈ l, e.ok) (h : chain ents l = some E) : walk ((flatE l).length + 1) (flatE l) 0 [] ents = ((flatE l).length, l, E, true) := by
  have h2 := flatE_len hl
  obtain ⟨f, hf⟩ : ∃ f, (flatE l).length + 1 = (f + 1) + l.length := ⟨(flatE l).length - l.length, by omega⟩
  have h1 := walk_flat l (f + 1) [] [] [] ents hl h
  simp only [List.nil_append, List.append_nil, List.length_nil, Nat.zero_add] at h1
  rw [hf, h1]
  exact walk_end _ _ (Nat.le_refl _)

/-- a segment: its number, its bytes, how many of them are good, the records -/
structure Sg where
  num : Nat
  bs : List Int
  good : Nat
  recs : List Ent

def readGo : List (Nat × List Int) → List Ent → List Sg × List Ent
  | [], E => ([], E)
  | x :: r, E =>
    if (walk (x.2.length + 1) x.2 0 [] E).2.2.2 = true ∧ (walk (x.2.length + 1) x.2 0 [] E).2.1 ≠ [] then
      (⟨x.1, x.2, (walk (x.2.length + 1) x.2 0 [] E).1, (walk (x.2.length + 1) x.2 0 [] E).2.1⟩ :: (readGo r (walk (x.2.length + 1) x.2 0 [] E).2.2.1).1, (readGo r (walk (x.2.length + 1) x.2 0 [] E).2.2.1).2)
    else (⟨x.1, x.2, (walk (x.2.length + 1) x.2 0 [] E).1, (walk (x.2.length + 1) x.2 0 [] E).2.1⟩ :: r.map (fun y => ⟨y.1, [], 0, []⟩), (walk (x.2.length + 1) x.2 0 [] E).2.2.1)
theorem readGo_nil (E : List Ent) : readGo [] E = ([], E) := rfl
theorem readGo_more {x : Nat × List Int} {E : List Ent} {good : Nat} {recs E' : List Ent} (r : List (Nat × List Int)) (h : walk (x.2.length + 1) x.2 0 [] E = (good, recs, E', true)) (hr : recs ≠ []) :
    readGo (x :: r) E = (⟨x.1, x.2, good, recs⟩ :: (readGo r E').1, (readGo r E').2) := by
  simp only [readGo, h]
  rw [if_pos ⟨trivial, hr⟩]
theorem readGo_stop {x : Nat × List Int} {E : List Ent} {good : Nat} {recs E' : List Ent} {b : Bool} (r : List (Nat × List Int)) (h : walk (x.2.length + 1) x.2 0 [] E = (good, recs, E', b)) (hr : b = false ∨ recs = []) :
    readGo (x :: r) E = (⟨x.1, x.2, good, recs⟩ :: r.map (fun y => ⟨y.1, [], 0, []⟩), E') := by
  simp only [readGo, h]
  rw [if_neg]
  rintro ⟨h1, h2⟩
  rcases hr with hr | hr
  · rw [hr] at h1; cases h1
  · exact h2 hr

def top (l : List Ent) : Nat := l.foldl (fun a e => max a e.ix) 0
theorem top_snoc (l : List Ent) (e : Ent) : top (l ++ [e]) = max (top l) e.ix := by simp [top]

end Go.Proofs.YtmfemedcjgeheaaGreatDoor.Wl
