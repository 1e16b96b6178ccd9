/- A table of jobs as plain mathematics: what its calls answer, and what is left. -/
import Derived.Test.YtpbnjibomdilhaaGreatDoorMah
import Derived.Test.YtpbnjibomdilhaaGreatDoorGGraphM
namespace Go.Proofs.YtpbnjibomdilhaaGreatDoor.Job
open Go.RowKit

/-- a job, but for where its Deps lie -/
def J.bare (j : J) : J := { j with da := none, dc := 0 }
def J.node (j : J) : Int × List Int := (j.id, j.deps)
def rowJ (L : List J) : Gr.Row := L.map J.node
/-- the job of a number -/
def findJ (L : List J) (id : Int) : Option J := L.find? fun j => j.id == id
/-- has another one that name? -/
def dupJ (L : List J) (j : J) : Bool := L.any fun k => decide (k.name = j.name) && !decide (k.id = j.id)
/-- why a job may not stand -/
def refJ (L : List J) (j : J) : Int := if j.err ≠ 0 then j.err else if dupJ L j then 150 else 0
/-- the row with a job -/
def withJ (L : List J) (j : J) : Gr.Row := ((rowJ L).filter fun n => !(n.1 == j.id)) ++ [j.node]
def putJ (L : List J) (j : J) : List J := if (findJ L j.id).isSome then L.map fun k => if k.id = j.id then j else k else L ++ [j]
def dropJ (L : List J) (id : Int) : List J := L.filter fun j => !(j.id == id)

/-- Add's error; j has its number -/
def addE (L : List J) (j : J) : Int := if refJ L j ≠ 0 then refJ L j else if 32 ≤ L.length then 6 else Gr.mayOf (withJ L j)
def changeE (L : List J) (j : J) : Int := if refJ L j ≠ 0 then refJ L j else Gr.mayOf (withJ L j)

theorem findJ_mem {L : List J} {id : Int} {j : J} (h : findJ L id = some j) : j ∈ L ∧ j.id = id := by
  refine ⟨List.mem_of_find?_eq_some h, ?_⟩
  have := List.find?_some h
  simpa using this
theorem findJ_none {L : List J} {id : Int} : findJ L id = none ↔ ∀ j ∈ L, j.id ≠ id := by
  simp [findJ, List.find?_eq_none]
theorem rise_find {L : List J} (h : (L.map (·.id)).Pairwise (· < ·)) {j : J} (hj : j ∈ L) : findJ L j.id = some j := by
  induction L with
  | nil => cases hj
  | cons k L ih =>
    rw [List.map_cons, List.pairwise_cons] at h
    rcases List.mem_cons.1 hj with rfl | hj
    · simp [findJ]
    · have : k.id ≠ j.id := by have := h.1 j.id (List.mem_map.2 ⟨j, hj, rfl⟩); omega
      unfold findJ
      rw [List.find?_cons_of_neg (by simpa using this)]
      exact ih h.2 hj
theorem findJ_some {L : List J} {id : Int} (h : (findJ L id).isSome) : ∃ j ∈ L, j.id = id := by
  obtain ⟨j, hj⟩ := Option.isSome_iff_exists.1 h
  exact ⟨j, findJ_mem hj⟩

theorem putJ_new {L : List J} {j : J} (h : ∀ k ∈ L, k.id ≠ j.id) : putJ L j = L ++ [j] := by
  unfold putJ; rw [if_neg]; rw [findJ_none.2 h]; simp
theorem putJ_old {L : List J} {j : J} (h : (findJ L j.id).isSome) : putJ L j = L.map fun k => if k.id = j.id then j else k := by
  unfold putJ; rw [if_pos h]
theorem putJ_ids {L : List J} {j : J} (h : (findJ L j.id).isSome) : (putJ L j).map (·.id) = L.map (·.id) := by
  rw [putJ_old h, List.map_map]
  refine List.map_congr_left fun k _ => ?_
  by_cases e : k.id = j.id <;> simp [e]
theorem putJ_mem {L : List J} {j k : J} (h : k ∈ putJ L j) : k = j ∨ (k ∈ L ∧ k.id ≠ j.id) := by
  unfold putJ at h
  split at h
  · obtain ⟨m, hm, rfl⟩ := List.mem_map.1 h
    by_cases e : m.id = j.id
    · rw [if_pos e]; exact .inl rfl
    · rw [if_neg e]; exact .inr ⟨hm, e⟩
  · rename_i hn
    rcases List.mem_append.1 h with h | h
    · refine .inr ⟨h, fun e => hn ?_⟩
      cases hf : findJ L j.id with
      | none => exact absurd e (findJ_none.1 hf k h)
      | some _ => rfl
    · exact .inl (by simpa using h)
theorem find_map_same {L : List J} (f : J → J) (x : Int) (h : ∀ k ∈ L, (f k).id = k.id) : findJ (L.map f) x = (findJ L x).map f := by
  induction L with
  | nil => rfl
  | cons k L ih =>
    have hk := h k (List.mem_cons_self ..)
    have ih := ih fun m hm => h m (List.mem_cons_of_mem _ hm)
    unfold findJ at *
    rw [List.map_cons]
    by_cases e : k.id = x
    · rw [List.find?_cons_of_pos (by simp [hk, e]), List.find?_cons_of_pos (by simp [e])]; rfl
    · rw [List.find?_cons_of_neg (by simp [hk, e]), List.find?_cons_of_neg (by simp [e]), ih]
theorem find_put_same {L : List J} {j : J} : findJ (putJ L j) j.id = some j := by
  unfold putJ
  split
  · rename_i h
    rw [find_map_same _ _ (fun k _ => by by_cases e : k.id = j.id <;> simp [e])]
    obtain ⟨k, hk⟩ := Option.isSome_iff_exists.1 h
    rw [hk, Option.map_some, if_pos (findJ_mem hk).2]
  · rename_i h
    unfold findJ at *
    rw [List.find?_append]
    cases hf : L.find? fun k => k.id == j.id with
    | none => simp
    | some k => rw [hf] at h; simp at h
theorem find_put_other {L : List J} {j : J} {x : Int} (hx : x ≠ j.id) : findJ (putJ L j) x = findJ L x := by
  unfold putJ
  split
  · rw [find_map_same _ _ (fun k _ => by by_cases e : k.id = j.id <;> simp [e])]
    cases hf : findJ L x with
    | none => rfl
    | some k =>
      have := (findJ_mem hf).2
      rw [Option.map_some, if_neg (by omega)]
  · unfold findJ
    rw [List.find?_append]
    have : ([j].find? fun k => k.id == x) = none := by
      rw [List.find?_cons_of_neg (by simp; omega), List.find?_nil]
    rw [this, Option.or_none]
theorem find_drop_same {L : List J} {id : Int} : findJ (dropJ L id) id = none := by
  rw [findJ_none]
  intro j hj e
  have := (List.mem_filter.1 hj).2
  simp [e] at this
theorem find_drop_other {L : List J} {id x : Int} (hx : x ≠ id) : findJ (dropJ L id) x = findJ L x := by
  unfold findJ dropJ
  induction L with
  | nil => rfl
  | cons k L ih =>
    by_cases e : k.id = id
    · rw [List.filter_cons_of_neg (by simp [e]), ih, List.find?_cons_of_neg (by simp; omega)]
    · rw [List.filter_cons_of_pos (by simp [e])]
      by_cases e2 : k.id = x
      · rw [List.find?_cons_of_pos (by simp [e2]), List.find?_cons_of_pos (by simp [e2])]
      · rw [List.find?_cons_of_neg (by simp [e2]), List.find?_cons_of_neg (by simp [e2]), ih]
theorem putJ_len {L : List J} {j : J} : (putJ L j).length = if (findJ L j.id).isSome then L.length else L.length + 1 := by
  unfold putJ; split <;> simp
theorem dropJ_len {L : List J} (h : (L.map (·.id)).Pairwise (· < ·)) (id : Int) : (dropJ L id).length + (if (findJ L id).isSome then 1 else 0) = L.length := by
  induction L with
  | nil => simp [dropJ, findJ]
  | cons k L ih =>
    rw [List.map_cons, List.pairwise_cons] at h
    have ih := ih h.2
    unfold dropJ findJ at *
    by_cases e : k.id = id
    · rw [List.filter_cons_of_neg (by simp [e]), List.find?_cons_of_pos (by simp [e])]
      have : (L.find? fun j => j.id == id) = none := by
        rw [List.find?_eq_none]
        intro j hj
        have := h.1 j.id (List.mem_map.2 ⟨j, hj, rfl⟩)
        simp; omega
      rw [this] at ih
      simp at ih ⊢
      exact ih
    · rw [List.filter_cons_of_pos (by simp [e]), List.find?_cons_of_neg (by simp [e])]
      simp only [List.length_cons]
      omega

/-- a table as it always is; n calls came -/
structure Ok (L : List J) (last : Int) (n : Nat) : Prop where
  rise : (L.map (·.id)).Pairwise (· < ·)
  ids : ∀ j ∈ L, 1 ≤ j.id ∧ j.id ≤ last
  names : L.Pairwise fun a b => a.name ≠ b.name
  row : Gr.mayOf (rowJ L) = 0
  may : ∀ j ∈ L, j.May
  len : L.length ≤ 32
  ver : ∀ j ∈ L, 0 ≤ j.ver ∧ j.ver ≤ n
  last0 : 0 ≤ last
  lastn : last ≤ n
theorem Ok.nil (n : Nat) : Ok [] 0 n := ⟨List.Pairwise.nil, fun j h => (by cases h), List.Pairwise.nil, (by decide), fun j h => (by cases h), (by simp), fun j h => (by cases h), by omega, by omega⟩
theorem Ok.more {L : List J} {last : Int} {n : Nat} (h : Ok L last n) {m : Nat} (hm : n ≤ m) : Ok L last m :=
  ⟨h.rise, h.ids, h.names, h.row, h.may, h.len, fun j hj => by have := h.ver j hj; omega, h.last0, by have := h.lastn; omega⟩

theorem refJ_zero {L : List J} {j : J} (h : refJ L j = 0) : j.May ∧ dupJ L j = false := by
  unfold refJ at h
  by_cases h1 : j.err = 0
  · rw [if_neg (by simp [h1])] at h
    refine ⟨J.may_iff.1 h1, ?_⟩
    cases hd : dupJ L j
    · rfl
    · rw [hd] at h; simp at h
  · rw [if_pos h1] at h; exact absurd h h1
theorem dup_names {L : List J} {j : J} (h : dupJ L j = false) {k : J} (hk : k ∈ L) (hi : k.id ≠ j.id) : k.name ≠ j.name := by
  intro e
  unfold dupJ at h
  rw [List.any_eq_false] at h
  have := h k hk
  simp [e, hi] at this
theorem rowJ_append (L M : List J) : rowJ (L ++ M) = rowJ L ++ rowJ M := by simp [rowJ]
theorem rowJ_mem {L : List J} {n : Int × List Int} : n ∈ rowJ L ↔ ∃ j ∈ L, j.node = n := List.mem_map
theorem filter_all {α : Type} {p : α → Bool} {l : List α} (h : ∀ x ∈ l, p x = true) : l.filter p = l := List.filter_eq_self.2 h
theorem withJ_new {L : List J} {j : J} (h : ∀ k ∈ L, k.id ≠ j.id) : withJ L j = rowJ L ++ [j.node] := by
  unfold withJ
  rw [filter_all]
  intro n hn
  obtain ⟨k, hk, rfl⟩ := rowJ_mem.1 hn
  simpa [J.node] using h k hk
theorem withJ_perm {L : List J} (hr : (L.map (·.id)).Pairwise (· < ·)) {j : J} (h : (findJ L j.id).isSome) {j' : J} (hn : j'.node = j.node) : (withJ L j).Perm (rowJ (putJ L j')) := by
  have hid : j'.id = j.id := congrArg Prod.fst hn
  rw [putJ_old (by rw [hid]; exact h), hid]
  unfold withJ
  clear hid
  induction L with
  | nil => simp [findJ] at h
  | cons k L ih =>
    rw [List.map_cons, List.pairwise_cons] at hr
    unfold rowJ at *
    by_cases e : k.id = j.id
    · have hoth : ∀ m ∈ L, m.id ≠ j.id := fun m hm => by have := hr.1 m.id (List.mem_map.2 ⟨m, hm, rfl⟩); omega
      rw [List.map_cons, List.filter_cons_of_neg (by simp [J.node, e]), List.map_cons, if_pos e, filter_all]
      · rw [show (L.map fun m => if m.id = j.id then j' else m) = L from ?_]
        · rw [List.map_cons, hn]
          exact List.perm_append_singleton ..
        · conv => rhs; rw [← List.map_id L]
          exact List.map_congr_left fun m hm => by simp [hoth m hm]
      · intro n hn
        obtain ⟨m, hm, rfl⟩ := List.mem_map.1 hn
        simpa [J.node] using hoth m hm
    · have h' : (findJ L j.id).isSome := by
        unfold findJ at *
        rw [List.find?_cons_of_neg (by simp [e])] at h
        exact h
      rw [List.map_cons, List.filter_cons_of_pos (by simp [J.node, e]), List.map_cons, if_neg e, List.map_cons, List.cons_append]
      exact (ih hr.2 h').cons _

/-- behind an Add -/
theorem Ok.add {L : List J} {last : Int} {n : Nat} (h : Ok L last n) {j j' : J} (hid : j.id = last + 1) (he : addE L j = 0) (hj : j' = { j with ver := 1, da := j'.da, dc := j'.dc }) : Ok (L ++ [j']) (last + 1) (n + 1) := by
  have hn : ∀ k ∈ L, k.id ≠ j.id := fun k hk => by have := (h.ids k hk).2; omega
  unfold addE at he
  by_cases hr : refJ L j = 0
  · rw [if_neg (by simp [hr])] at he
    by_cases hl : 32 ≤ L.length
    · rw [if_pos hl] at he; omega
    · rw [if_neg hl, withJ_new hn] at he
      obtain ⟨hm, hd⟩ := refJ_zero hr
      have e1 : j'.id = j.id := by rw [hj]
      have e2 : j'.name = j.name := by rw [hj]
      have e3 : j'.node = j.node := by rw [hj]; rfl
      have e4 : j'.ver = 1 := by rw [hj]
      have hm' : j'.May := by rw [hj]; exact ⟨hm.name, hm.expr, hm.deps, hm.pol, hm.gra, hm.lim, hm.ret, hm.tim, hm.seen⟩
      have h0 := h.last0
      have hl' := h.lastn
      refine ⟨?_, fun k hk => ?_, ?_, ?_, fun k hk => ?_, by simp; omega, fun k hk => ?_, by omega, by omega⟩
      · rw [List.map_append, List.pairwise_append]
        refine ⟨h.rise, by simp, fun a ha b hb => ?_⟩
        obtain ⟨k, hk, rfl⟩ := List.mem_map.1 ha
        simp at hb
        have := (h.ids k hk).2
        omega
      · rcases List.mem_append.1 hk with hk | hk
        · have := h.ids k hk; omega
        · simp at hk; subst hk; omega
      · rw [List.pairwise_append]
        refine ⟨h.names, by simp, fun a ha b hb => ?_⟩
        simp at hb
        rw [hb, e2]
        exact dup_names hd ha (hn a ha)
      · rw [rowJ_append]
        show Gr.mayOf (rowJ L ++ [j'.node]) = 0
        rw [e3]; exact he
      · rcases List.mem_append.1 hk with hk | hk
        · exact h.may k hk
        · simp at hk; rw [hk]; exact hm'
      · rcases List.mem_append.1 hk with hk | hk
        · have := h.ver k hk; omega
        · simp at hk; rw [hk, e4]; omega
  · rw [if_pos hr] at he; exact absurd he hr

theorem names_map {L : List J} (h : L.Pairwise fun a b => a.name ≠ b.name) (hr : (L.map (·.id)).Pairwise (· < ·)) {j : J} (hd : ∀ k ∈ L, k.id ≠ j.id → k.name ≠ j.name) : (L.map fun k => if k.id = j.id then j else k).Pairwise fun a b => a.name ≠ b.name := by
  induction L with
  | nil => exact List.Pairwise.nil
  | cons k L ih =>
    rw [List.map_cons, List.pairwise_cons] at hr
    rw [List.pairwise_cons] at h
    rw [List.map_cons, List.pairwise_cons]
    refine ⟨fun b hb => ?_, ih h.2 hr.2 fun m hm => hd m (List.mem_cons_of_mem _ hm)⟩
    obtain ⟨m, hm, rfl⟩ := List.mem_map.1 hb
    have hlt := hr.1 m.id (List.mem_map.2 ⟨m, hm, rfl⟩)
    by_cases e : k.id = j.id
    · rw [if_pos e, if_neg (by omega)]
      exact fun e' => hd m (List.mem_cons_of_mem _ hm) (by omega) e'.symm
    · rw [if_neg e]
      by_cases e2 : m.id = j.id
      · rw [if_pos e2]
        exact hd k (List.mem_cons_self ..) e
      · rw [if_neg e2]
        exact h.1 m hm

/-- behind a Change, a Pause, a See: the row may be as it is then -/
theorem Ok.put {L : List J} {last : Int} {n : Nat} (h : Ok L last n) {j : J} (hf : (findJ L j.id).isSome) (hrow : Gr.mayOf (rowJ (putJ L j)) = 0) (hd : ∀ k ∈ L, k.id ≠ j.id → k.name ≠ j.name) (hm : j.May) (hv : 0 ≤ j.ver ∧ j.ver ≤ n + 1) :
    Ok (putJ L j) last (n + 1) := by
  refine ⟨by rw [putJ_ids hf]; exact h.rise, fun k hk => ?_, by rw [putJ_old hf]; exact names_map h.names h.rise hd, hrow, fun k hk => ?_, by rw [putJ_len, if_pos hf]; exact h.len, fun k hk => ?_, h.last0, by have := h.lastn; omega⟩
  · rcases putJ_mem hk with rfl | ⟨hk, _⟩
    · obtain ⟨m, hm, e⟩ := findJ_some hf
      have := h.ids m hm
      omega
    · exact h.ids k hk
  · rcases putJ_mem hk with rfl | ⟨hk, _⟩
    · exact hm
    · exact h.may k hk
  · rcases putJ_mem hk with rfl | ⟨hk, _⟩
    · omega
    · have := h.ver k hk; omega
theorem may_perm {L M : Gr.Row} (p : L.Perm M) (h : Gr.mayOf L = 0) : Gr.mayOf M = 0 := Gr.may_iff.2 ((Gr.may_iff.1 h).perm p)
theorem Ok.change {L : List J} {last : Int} {n : Nat} (h : Ok L last n) {j j' was : J} (hf : findJ L j.id = some was) (he : changeE L j = 0) (hj : j' = { j with pau := was.pau, seen := was.seen, ver := was.ver + 1, da := j'.da, dc := j'.dc }) : Ok (putJ L j') last (n + 1) := by
  unfold changeE at he
  by_cases hr : refJ L j = 0
  · rw [if_neg (by simp [hr])] at he
    obtain ⟨hm, hd⟩ := refJ_zero hr
    have hw := (findJ_mem hf).1
    have hwm := h.may was hw
    have hwv := h.ver was hw
    have e1 : j'.id = j.id := by rw [hj]
    have e2 : j'.name = j.name := by rw [hj]
    have e3 : j'.node = j.node := by rw [hj]; rfl
    have e4 : j'.ver = was.ver + 1 := by rw [hj]
    have hs : (findJ L j.id).isSome := by rw [hf]; rfl
    refine h.put (by rw [e1]; exact hs) (may_perm (withJ_perm h.rise hs e3) he) (fun k hk hi => ?_) ?_ (by omega)
    · rw [e2]; exact dup_names hd hk (by rw [← e1]; exact hi)
    · rw [hj]; exact ⟨hm.name, hm.expr, hm.deps, hm.pol, hm.gra, hm.lim, hm.ret, hm.tim, hwm.seen⟩
  · rw [if_pos hr] at he; exact absurd he hr
theorem row_same {L : List J} (hr : (L.map (·.id)).Pairwise (· < ·)) {j was : J} (hf : findJ L j.id = some was) (hn : j.node = was.node) : rowJ (putJ L j) = rowJ L := by
  rw [putJ_old (by rw [hf]; rfl)]
  unfold rowJ
  rw [List.map_map]
  refine List.map_congr_left fun k hk => ?_
  by_cases e : k.id = j.id
  · have := rise_find hr hk
    rw [e, hf] at this
    cases this
    simp [e, hn]
  · simp [e]
theorem names_inj {L : List J} (h : L.Pairwise fun a b => a.name ≠ b.name) {a b : J} (ha : a ∈ L) (hb : b ∈ L) (e : a.name = b.name) : a = b := by
  induction L with
  | nil => cases ha
  | cons k L ih =>
    rw [List.pairwise_cons] at h
    rcases List.mem_cons.1 ha with ea | ha2
    · rcases List.mem_cons.1 hb with eb | hb2
      · rw [ea, eb]
      · rw [ea] at e; exact absurd e (h.1 b hb2)
    · rcases List.mem_cons.1 hb with eb | hb2
      · rw [eb] at e; exact absurd e.symm (h.1 a ha2)
      · exact ih h.2 ha2 hb2
theorem map_erase (f : J → Int × List Int) : ∀ (L : List J) (k : Nat), (L.eraseIdx k).map f = (L.map f).eraseIdx k
  | [], k => by simp
  | m :: L, 0 => by simp
  | m :: L, k + 1 => by simp [map_erase f L k]
/-- behind a Pause, a See -/
theorem Ok.note {L : List J} {last : Int} {n : Nat} (h : Ok L last n) {j was : J} (hf : findJ L j.id = some was) (hj : j = { was with pau := j.pau, seen := j.seen, da := j.da, dc := j.dc }) (hs : -1 ≤ j.seen ∧ j.seen ≤ 13569465599) : Ok (putJ L j) last (n + 1) := by
  have hw := (findJ_mem hf).1
  have hwm := h.may was hw
  have hwv := h.ver was hw
  have e1 : j.id = was.id := by rw [hj]
  have e2 : j.name = was.name := by rw [hj]
  have e3 : j.node = was.node := by rw [hj]; rfl
  have e4 : j.ver = was.ver := by rw [hj]
  refine h.put (by rw [hf]; rfl) (by rw [row_same h.rise hf e3]; exact h.row) (fun k hk hi => ?_) ?_ (by omega)
  · rw [e2]
    intro e
    have hne : k ≠ was := fun e' => hi (by rw [e', e1])
    clear hf
    exact hne (names_inj h.names hk hw e)
  · have hseen := hs
    rw [hj]; exact ⟨hwm.name, hwm.expr, hwm.deps, hwm.pol, hwm.gra, hwm.lim, hwm.ret, hwm.tim, hseen⟩

theorem dropJ_erase {L : List J} (hr : (L.map (·.id)).Pairwise (· < ·)) {k : Nat} (hk : k < L.length) : dropJ L L[k].id = L.eraseIdx k := by
  induction L generalizing k with
  | nil => simp at hk
  | cons m L ih =>
    rw [List.map_cons, List.pairwise_cons] at hr
    cases k with
    | zero =>
      unfold dropJ
      rw [List.getElem_cons_zero, List.filter_cons_of_neg (by simp), List.eraseIdx_zero, List.tail_cons, filter_all]
      intro x hx
      have := hr.1 x.id (List.mem_map.2 ⟨x, hx, rfl⟩)
      simp; omega
    | succ k =>
      have hk' : k < L.length := by simpa using hk
      have := hr.1 L[k].id (List.mem_map.2 ⟨L[k], List.getElem_mem hk', rfl⟩)
      have ih := ih hr.2 hk'
      unfold dropJ at *
      rw [List.getElem_cons_succ, List.filter_cons_of_pos (by simp; omega), ih, List.eraseIdx_cons_succ]
/-- behind a Remove -/
theorem Ok.drop {L : List J} {last : Int} {n : Nat} (h : Ok L last n) {id : Int} {was : J} (hf : findJ L id = some was) (hu : Gr.usersOf (rowJ L) id = []) : Ok (dropJ L id) last (n + 1) := by
  obtain ⟨hw, hid⟩ := findJ_mem hf
  obtain ⟨k, hk, hkw⟩ := List.mem_iff_getElem.1 hw
  have hsub : (dropJ L id).Sublist L := List.filter_sublist
  have hdr : dropJ L id = L.eraseIdx k := by rw [← hid, ← hkw]; exact dropJ_erase h.rise hk
  refine ⟨h.rise.sublist (hsub.map _), fun j hj => h.ids j (hsub.subset hj), h.names.sublist hsub, ?_, fun j hj => h.may j (hsub.subset hj), Nat.le_trans hsub.length_le h.len, fun j hj => by have := h.ver j (hsub.subset hj); omega, h.last0, by have := h.lastn; omega⟩
  have hkr : k < (rowJ L).length := by simp [rowJ]; exact hk
  have hat : (rowJ L)[k].1 = id := by simp [rowJ, J.node, hkw, hid]
  have hm := Gr.less_may (Gr.may_iff.1 h.row) hkr (fun a he => by
    rw [hat] at he
    have := ((Gr.users_is (rowJ L) id).mem a).2 he
    rw [hu] at this
    cases this)
  rw [hdr]
  have : rowJ (L.eraseIdx k) = (rowJ L).eraseIdx k := map_erase _ _ _
  rw [this]
  exact Gr.may_iff.2 hm

/-- what a step leaves -/
structure StepOk (n : Nat) (k id : Int) (L : List J) (last e : Int) (L' : List J) (last' : Int) : Prop where
  ok : Ok L' last' (n + 1)
  same : e ≠ 0 → L' = L ∧ last' = last
  mono : last ≤ last'
  seen : ∀ a b, findJ L id = some a → findJ L' id = some b → a.seen ≤ b.seen ∧ (b.ver = a.ver ∨ (k = 1 ∧ b.ver = a.ver + 1))
  had : e = 0 → 0 < k → k < 5 → (findJ L id).isSome
theorem StepOk.none {n : Nat} {k id : Int} {L : List J} {last e : Int} (h : Ok L last n) (he : e ≠ 0 ∨ k ≤ 0 ∨ 5 ≤ k) : StepOk n k id L last e L last :=
  ⟨h.more (by omega), fun _ => ⟨rfl, rfl⟩, by omega, fun a b ha hb => (by rw [ha] at hb; cases hb; exact ⟨by omega, .inl rfl⟩), fun e0 h1 h2 => by omega⟩
theorem StepOk.add {n : Nat} {k id : Int} {L : List J} {last : Int} (h : Ok L last n) {j j' : J} (hk : k = 0) (hid : j.id = last + 1) (he : addE L j = 0) (hj : j' = { j with ver := 1, da := j'.da, dc := j'.dc }) : StepOk n k id L last 0 (L ++ [j']) (last + 1) := by
  have hn : ∀ m ∈ L, m.id ≠ j'.id := fun m hm => by have := (h.ids m hm).2; rw [hj]; show m.id ≠ j.id; omega
  refine ⟨h.add hid he hj, fun e => absurd rfl e, by omega, fun a b ha hb => ?_, fun _ h1 _ => by omega⟩
  obtain ⟨h1, h2⟩ := findJ_mem ha
  rw [← putJ_new hn, find_put_other (by rw [← h2]; exact hn a h1), ha] at hb
  cases hb
  exact ⟨by omega, .inl rfl⟩
theorem StepOk.put {n : Nat} {k id : Int} {L : List J} {last : Int} {j was : J} (hf : findJ L id = some was) (hid : j.id = id) (h : Ok (putJ L j) last (n + 1)) (hs : was.seen ≤ j.seen) (hv : j.ver = was.ver ∨ (k = 1 ∧ j.ver = was.ver + 1)) : StepOk n k id L last 0 (putJ L j) last :=
  ⟨h, fun e => absurd rfl e, by omega, fun a b ha hb => (by rw [hf] at ha; cases ha; rw [← hid, find_put_same] at hb; cases hb; exact ⟨hs, hv⟩), fun _ _ _ => by rw [hf]; rfl⟩
theorem StepOk.drop {n : Nat} {k id : Int} {L : List J} {last : Int} {was : J} (hf : findJ L id = some was) (h : Ok (dropJ L id) last (n + 1)) : StepOk n k id L last 0 (dropJ L id) last :=
  ⟨h, fun e => absurd rfl e, by omega, fun a b ha hb => (by rw [find_drop_same] at hb; cases hb), fun _ _ _ => by rw [hf]; rfl⟩
end Go.Proofs.YtpbnjibomdilhaaGreatDoor.Job
