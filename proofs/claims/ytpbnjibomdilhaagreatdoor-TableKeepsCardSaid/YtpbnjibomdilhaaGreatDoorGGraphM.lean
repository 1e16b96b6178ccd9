/- Plain mathematics of layer 13: who waits for whom, ways, orders. No program is spoken of here. -/
import Derived.Test.YtpbnjibomdilhaaGreatDoorProg
namespace Go.Proofs.YtpbnjibomdilhaaGreatDoor.Gr

abbrev Row := List (Int × List Int)
def ids (L : Row) : List Int := L.map (·.1)
/-- a waits for b -/
def Edge (L : Row) (a b : Int) : Prop := ∃ n ∈ L, n.1 = a ∧ b ∈ n.2
inductive Path (L : Row) : Int → Int → Prop
  | one {a b : Int} : Edge L a b → Path L a b
  | more {a b c : Int} : Edge L a b → Path L b c → Path L a c

theorem Path.trans {L : Row} {a b c : Int} (h : Path L a b) (k : Path L b c) : Path L a c := by
  induction h with
  | one e => exact .more e k
  | more e _ ih => exact .more e (ih k)
theorem Path.snoc {L : Row} {a b c : Int} (h : Path L a b) (e : Edge L b c) : Path L a c := h.trans (.one e)
theorem Edge.head {L : Row} {a b : Int} (h : Edge L a b) : a ∈ ids L := by
  obtain ⟨n, hn, rfl, _⟩ := h
  exact List.mem_map_of_mem hn
theorem Path.head {L : Row} {a b : Int} (h : Path L a b) : a ∈ ids L := by
  cases h with
  | one e => exact e.head
  | more e _ => exact e.head
/-- the last step of a way -/
theorem Path.last {L : Row} {a b : Int} (h : Path L a b) : Edge L a b ∨ ∃ c, Path L a c ∧ Edge L c b := by
  induction h with
  | one e => exact .inl e
  | more e k ih =>
    rcases ih with e2 | ⟨c, h1, h2⟩
    · exact .inr ⟨_, .one e, e2⟩
    · exact .inr ⟨c, .more e h1, h2⟩
theorem Edge.mono {L M : Row} (h : ∀ n ∈ L, n ∈ M) {a b : Int} (e : Edge L a b) : Edge M a b := by
  obtain ⟨n, hn, r⟩ := e
  exact ⟨n, h n hn, r⟩
theorem Path.mono {L M : Row} (h : ∀ n ∈ L, n ∈ M) {a b : Int} (p : Path L a b) : Path M a b := by
  induction p with
  | one e => exact .one (e.mono h)
  | more e _ ih => exact .more (e.mono h) ih
theorem path_perm {L M : Row} (h : L.Perm M) {a b : Int} : Path L a b ↔ Path M a b :=
  ⟨Path.mono fun _ hn => h.mem_iff.1 hn, Path.mono fun _ hn => h.mem_iff.2 hn⟩

/-- what holds of all that one waits for, and goes on, holds of all that is reached -/
theorem Path.closed {L : Row} {S : Int → Prop} {a b : Int} (p : Path L a b) (h0 : ∀ c, Edge L a c → S c) (hs : ∀ c d, S c → Edge L c d → S d) : S b := by
  rcases p.last with e | ⟨c, p, e⟩
  · exact h0 _ e
  · have : ∀ {x y : Int}, Path L x y → (∀ c, Edge L x c → S c) → S y := by
      intro x y q
      induction q with
      | one e => exact fun h => h _ e
      | more e _ ih => exact fun h => ih fun c ec => hs _ _ (h _ e) ec
    exact hs _ _ (this p h0) e

/-! ### rows without doubles -/
theorem nodup_le {g : List Int} : ∀ {l : List Int}, g.Nodup → (∀ x ∈ g, x ∈ l) → g.length ≤ l.length := by
  induction g with
  | nil => intro l _ _; exact Nat.zero_le _
  | cons x g ih =>
    intro l hn hs
    have hx : x ∈ l := hs x (by simp)
    rw [List.nodup_cons] at hn
    have h := ih (l := l.erase x) hn.2 (fun y hy => (List.mem_erase_of_ne (fun e => hn.1 (by rw [← e]; exact hy))).2 (hs y (by simp [hy])))
    rw [List.length_erase_of_mem hx] at h
    have := List.length_pos_of_mem hx
    simp only [List.length_cons]
    omega
theorem all_in {g l : List Int} (hn : g.Nodup) (hs : ∀ x ∈ g, x ∈ l) (hl : l.length ≤ g.length) {x : Int} (hx : x ∈ l) : x ∈ g := by
  apply Decidable.byContradiction
  intro h
  have := nodup_le (g := x :: g) (l := l) (List.nodup_cons.2 ⟨h, hn⟩) (fun y hy => by
    rcases List.mem_cons.1 hy with rfl | hy
    · exact hx
    · exact hs y hy)
  simp only [List.length_cons] at this
  omega

theorem nodup_inj {g : List Int} (hn : g.Nodup) {i j : Nat} (hi : i < g.length) (hj : j < g.length) (h : g[i] = g[j]) : i = j := by
  rcases Nat.lt_trichotomy i j with hl | hl | hl
  · exact absurd h (List.pairwise_iff_getElem.1 hn i j hi hj hl)
  · exact hl
  · exact absurd h.symm (List.pairwise_iff_getElem.1 hn j i hj hi hl)

/-! ### the order -/
/-- all for whom one waits have gone ahead, and one has not -/
def ready (g : List Int) (n : Int × List Int) : Bool := !g.contains n.1 && n.2.all fun d => g.contains d
theorem ready_iff {g : List Int} {n : Int × List Int} : ready g n = true ↔ n.1 ∉ g ∧ ∀ d ∈ n.2, d ∈ g := by
  simp [ready]
def cands (L : Row) (g : List Int) : List Int := (L.filter (ready g)).map (·.1)
theorem mem_cands {L : Row} {g : List Int} {x : Int} : x ∈ cands L g ↔ ∃ n ∈ L, n.1 = x ∧ ready g n = true := by
  simp only [cands, List.mem_map, List.mem_filter]
  exact ⟨fun ⟨n, ⟨h1, h2⟩, h3⟩ => ⟨n, h1, h3, h2⟩, fun ⟨n, h1, h3, h2⟩ => ⟨n, ⟨h1, h2⟩, h3⟩⟩
def least : List Int → Option Int
  | [] => none
  | x :: l => match least l with
    | none => some x
    | some y => some (if x ≤ y then x else y)
theorem least_none {l : List Int} : least l = none ↔ l = [] := by
  cases l with
  | nil => simp [least]
  | cons x l => simp only [least]; cases least l <;> simp
theorem least_some {l : List Int} : ∀ {x : Int}, least l = some x → x ∈ l ∧ ∀ y ∈ l, x ≤ y := by
  induction l with
  | nil => intro x h; simp [least] at h
  | cons a l ih =>
    intro x h
    simp only [least] at h
    cases hl : least l with
    | none =>
      rw [hl] at h
      obtain rfl : a = x := by simpa using h
      rw [least_none.1 hl]
      simp
    | some y =>
      rw [hl] at h
      have h1 := ih hl
      have h2 : (if a ≤ y then a else y) = x := by simpa using h
      by_cases hc : a ≤ y
      · rw [if_pos hc] at h2
        subst h2
        refine ⟨by simp, fun z hz => ?_⟩
        rcases List.mem_cons.1 hz with rfl | hz
        · exact Int.le_refl _
        · have := h1.2 z hz; omega
      · rw [if_neg hc] at h2
        subst h2
        refine ⟨by simp [h1.1], fun z hz => ?_⟩
        rcases List.mem_cons.1 hz with rfl | hz
        · omega
        · exact h1.2 z hz
def next (L : Row) (g : List Int) : Option Int := least (cands L g)
structure IsNext (L : Row) (g : List Int) (x : Int) : Prop where
  mem : x ∈ cands L g
  le : ∀ y ∈ cands L g, x ≤ y
theorem IsNext.one {L : Row} {g : List Int} {x y : Int} (h : IsNext L g x) (k : IsNext L g y) : x = y := by
  have h1 := h.le _ k.mem
  have h2 := k.le _ h.mem
  omega
theorem next_some {L : Row} {g : List Int} {x : Int} : next L g = some x ↔ IsNext L g x := by
  refine ⟨fun h => ⟨(least_some h).1, (least_some h).2⟩, fun h => ?_⟩
  cases hn : next L g with
  | none =>
    have hm := h.mem
    rw [least_none.1 (show least (cands L g) = none from hn)] at hm
    cases hm
  | some y => rw [h.one ⟨(least_some hn).1, (least_some hn).2⟩]
theorem next_none {L : Row} {g : List Int} : next L g = none ↔ ∀ n ∈ L, ready g n = false := by
  unfold next
  rw [least_none]
  refine ⟨fun h n hn => ?_, fun h => ?_⟩
  · cases hr : ready g n with
    | false => rfl
    | true =>
      have : n.1 ∈ cands L g := mem_cands.2 ⟨n, hn, rfl, hr⟩
      rw [h] at this
      cases this
  · cases hc : cands L g with
    | nil => rfl
    | cons x l =>
      obtain ⟨n, hn, _, hr⟩ := mem_cands.1 (show x ∈ cands L g by rw [hc]; simp)
      rw [h n hn] at hr
      cases hr

def steps (L : Row) : Nat → List Int → List Int
  | 0, g => g
  | k + 1, g => match next L g with
    | none => g
    | some x => steps L k (g ++ [x])
def orderOf (L : Row) : List Int := steps L L.length []

/-- going on from g one comes to o, and no further -/
inductive Runs (L : Row) : List Int → List Int → Prop
  | stop {g : List Int} : next L g = none → Runs L g g
  | go {g o : List Int} {x : Int} : next L g = some x → Runs L (g ++ [x]) o → Runs L g o
theorem Runs.one {L : Row} {g o p : List Int} (h : Runs L g o) (k : Runs L g p) : o = p := by
  induction h with
  | stop h =>
    cases k with
    | stop _ => rfl
    | go h2 _ => rw [h] at h2; cases h2
  | go h _ ih =>
    cases k with
    | stop h2 => rw [h] at h2; cases h2
    | go h2 k =>
      rw [h] at h2
      obtain rfl := Option.some.inj h2
      exact ih k

/-- those who have gone ahead: each once, each a node's -/
structure Gone (L : Row) (g : List Int) : Prop where
  nodup : g.Nodup
  sub : ∀ x ∈ g, x ∈ ids L
theorem Gone.nil (L : Row) : Gone L [] := ⟨List.nodup_nil, fun x hx => by cases hx⟩
theorem Gone.len {L : Row} {g : List Int} (h : Gone L g) : g.length ≤ L.length := by
  have := nodup_le h.nodup h.sub
  simpa [ids] using this
theorem Gone.add {L : Row} {g : List Int} (h : Gone L g) {x : Int} (hx : x ∈ cands L g) : Gone L (g ++ [x]) := by
  obtain ⟨n, hn, rfl, hr⟩ := mem_cands.1 hx
  have h1 := (ready_iff.1 hr).1
  refine ⟨List.nodup_append.2 ⟨h.nodup, by simp, fun a ha b hb => ?_⟩, fun y hy => ?_⟩
  · simp at hb
    subst hb
    exact fun e => h1 (e ▸ ha)
  · rcases List.mem_append.1 hy with hy | hy
    · exact h.sub y hy
    · simp at hy
      subst hy
      exact List.mem_map_of_mem hn
theorem Gone.next {L : Row} {g : List Int} (h : Gone L g) {x : Int} (hx : next L g = some x) : Gone L (g ++ [x]) := h.add (next_some.1 hx).mem
theorem Gone.room {L : Row} {g : List Int} (h : Gone L g) {x : Int} (hx : x ∈ cands L g) : g.length < L.length := by
  have := (h.add hx).len
  simp at this
  omega
theorem Gone.full {L : Row} {g : List Int} (h : Gone L g) (hl : L.length ≤ g.length) : Gr.next L g = none := by
  cases hn : Gr.next L g with
  | none => rfl
  | some x => have := h.room (next_some.1 hn).mem; omega
theorem runs_steps {L : Row} : ∀ {k : Nat} {g : List Int}, Gone L g → L.length - g.length ≤ k → Runs L g (steps L k g) := by
  intro k
  induction k with
  | zero => intro g h hk; exact .stop (h.full (by omega))
  | succ k ih =>
    intro g h hk
    simp only [steps]
    cases hn : next L g with
    | none => exact .stop hn
    | some x =>
      have h2 := h.next hn
      refine .go hn (ih h2 ?_)
      simp
      omega
theorem runs_order (L : Row) : Runs L [] (orderOf L) := runs_steps (Gone.nil L) (by simp)
theorem Runs.gone {L : Row} {g o : List Int} (h : Runs L g o) (hg : Gone L g) : Gone L o := by
  induction h with
  | stop _ => exact hg
  | go hx _ ih => exact ih (hg.next hx)
theorem Runs.next {L : Row} {g o : List Int} (h : Runs L g o) : Gr.next L o = none := by
  induction h with
  | stop h => exact h
  | go _ _ ih => exact ih
theorem order_gone (L : Row) : Gone L (orderOf L) := (runs_order L).gone (Gone.nil L)

/-! ### what an order is -/
/-- each one's Deps stand ahead -/
def Topo (L : Row) (g : List Int) : Prop := ∀ (i : Nat) (a : Int), g[i]? = some a → ∀ b, Edge L a b → ∃ j : Nat, j < i ∧ g[j]? = some b
theorem Topo.next {L : Row} (hd : (ids L).Nodup) {g : List Int} (h : Topo L g) {x : Int} (hx : Gr.next L g = some x) : Topo L (g ++ [x]) := by
  obtain ⟨n, hn, rfl, hr⟩ := mem_cands.1 (next_some.1 hx).mem
  obtain ⟨h1, h2⟩ := ready_iff.1 hr
  intro i a hi b hb
  rcases Nat.lt_or_ge i g.length with hl | hl
  · rw [List.getElem?_append_left hl] at hi
    obtain ⟨j, hj, hjb⟩ := h i a hi b hb
    exact ⟨j, hj, by rw [List.getElem?_append_left (by omega)]; exact hjb⟩
  · rw [List.getElem?_append_right hl] at hi
    have hi0 : i - g.length = 0 := by
      have := (List.getElem?_eq_some_iff.1 hi).1
      simp at this
      omega
    rw [hi0] at hi
    obtain rfl : n.1 = a := by simpa using hi
    obtain ⟨m, hm, he, hbm⟩ := hb
    have hmn : m = n := by
      obtain ⟨p, hp⟩ := List.getElem_of_mem hm
      obtain ⟨q, hq⟩ := List.getElem_of_mem hn
      obtain ⟨hp, hpe⟩ := hp
      obtain ⟨hq, hqe⟩ := hq
      have hpq : p = q := by
        refine nodup_inj (g := ids L) hd (by simpa [ids] using hp) (by simpa [ids] using hq) ?_
        simp [ids, hpe, hqe, he]
      subst hpq
      rw [← hpe, ← hqe]
    subst hmn
    obtain ⟨j, hj⟩ := List.getElem?_of_mem (h2 b hbm)
    have hjl := (List.getElem?_eq_some_iff.1 hj).1
    exact ⟨j, by omega, by rw [List.getElem?_append_left hjl]; exact hj⟩
theorem Runs.topo {L : Row} (hd : (ids L).Nodup) {g o : List Int} (h : Runs L g o) (hg : Topo L g) : Topo L o := by
  induction h with
  | stop _ => exact hg
  | go hx _ ih => exact ih (hg.next hd hx)
theorem order_topo {L : Row} (hd : (ids L).Nodup) : Topo L (orderOf L) := (runs_order L).topo hd (fun i a h => by simp at h)
theorem Topo.path {L : Row} {g : List Int} (h : Topo L g) {a b : Int} (p : Path L a b) : ∀ i : Nat, g[i]? = some a → ∃ j : Nat, j < i ∧ g[j]? = some b := by
  induction p with
  | one e => exact fun i hi => h i _ hi _ e
  | more e _ ih =>
    intro i hi
    obtain ⟨j, hj, hjb⟩ := h i _ hi _ e
    obtain ⟨k, hk, hkb⟩ := ih j hjb
    exact ⟨k, by omega, hkb⟩
theorem nodup_at {g : List Int} (hn : g.Nodup) {i j : Nat} {a : Int} (hi : g[i]? = some a) (hj : g[j]? = some a) : i = j := by
  obtain ⟨h1, h2⟩ := List.getElem?_eq_some_iff.1 hi
  obtain ⟨h3, h4⟩ := List.getElem?_eq_some_iff.1 hj
  exact nodup_inj hn h1 h3 (by rw [h2, h4])
/-- in an order nobody reaches who stands at their place or behind -/
theorem Topo.no_path {L : Row} {g : List Int} (h : Topo L g) (hn : g.Nodup) {i k : Nat} {a b : Int} (hi : g[i]? = some a) (hk : g[k]? = some b) (hik : i ≤ k) : ¬ Path L a b := fun p => by
  obtain ⟨j, hj, hjb⟩ := h.path p i hi
  have := nodup_at hn hjb hk
  omega

/-! ### circles -/
/-- where from each one of a row a step leads to one of it, there is a circle -/
theorem circle_of_steps {L : Row} : ∀ (k : Nat) (T : List Int), T.length ≤ k → T ≠ [] → (∀ x ∈ T, ∃ y ∈ T, Edge L x y) → ∃ x ∈ T, Path L x x := by
  intro k
  induction k with
  | zero =>
    intro T hl hne _
    exact absurd (List.eq_nil_of_length_eq_zero (by omega)) hne
  | succ k ih =>
    intro T hl hne hT
    obtain ⟨t, ht⟩ := List.exists_mem_of_ne_nil T hne
    by_cases hp : Path L t t
    · exact ⟨t, ht, hp⟩
    · have hc : ∀ y, Decidable (Path L t y) := fun y => Classical.propDecidable _
      obtain ⟨T', hT'⟩ : ∃ T' : List Int, ∀ y, y ∈ T' ↔ y ∈ T.erase t ∧ Path L t y := ⟨(T.erase t).filter (fun y => @decide (Path L t y) (hc y)), fun y => by simp⟩
      have hmem : ∀ y ∈ T, Path L t y → y ∈ T' := fun y hy py => (hT' y).2 ⟨(List.mem_erase_of_ne (fun e => hp (by rw [e] at py; exact py))).2 hy, py⟩
      obtain ⟨T2, hT2, hl2⟩ : ∃ T2 : List Int, (∀ y, y ∈ T2 ↔ y ∈ T.erase t ∧ Path L t y) ∧ T2.length ≤ k := by
        refine ⟨(T.erase t).filter (fun y => @decide (Path L t y) (hc y)), fun y => by simp, ?_⟩
        have h1 := List.length_filter_le (fun y => @decide (Path L t y) (hc y)) (T.erase t)
        rw [List.length_erase_of_mem ht] at h1
        omega
      obtain ⟨y, hy, e⟩ := hT t ht
      have in2 : ∀ y ∈ T, Path L t y → y ∈ T2 := fun y hy py => (hT2 y).2 ((hT' y).1 (hmem y hy py))
      obtain ⟨x, hx, px⟩ := ih T2 hl2 (fun h => by have := in2 y hy (.one e); rw [h] at this; cases this) (fun x hx => by
        obtain ⟨h1, h2⟩ := (hT2 x).1 hx
        obtain ⟨z, hz, ez⟩ := hT x (List.mem_of_mem_erase h1)
        exact ⟨z, in2 z hz (h2.snoc ez), ez⟩)
      exact ⟨x, List.mem_of_mem_erase ((hT2 x).1 hx).1, px⟩

def Closed (L : Row) : Prop := ∀ n ∈ L, ∀ d ∈ n.2, d ∈ ids L
/-- the order is of all just if nobody reaches themselves -/
theorem order_full {L : Row} (hd : (ids L).Nodup) (hc : Closed L) : (orderOf L).length < L.length ↔ ∃ a ∈ ids L, Path L a a := by
  have hG := order_gone L
  constructor
  · intro hl
    obtain ⟨T, hT⟩ : ∃ T : List Int, T = (ids L).filter (fun x => !(orderOf L).contains x) := ⟨_, rfl⟩
    have hm : ∀ x, x ∈ T ↔ x ∈ ids L ∧ x ∉ orderOf L := fun x => by rw [hT]; simp
    obtain ⟨x, hx, p⟩ := circle_of_steps (L := L) T.length T (Nat.le_refl _) (fun h => by
      have hall : ∀ x ∈ ids L, x ∈ orderOf L := fun x hx => by
        apply Decidable.byContradiction
        intro hx2
        have := (hm x).2 ⟨hx, hx2⟩
        rw [h] at this
        cases this
      have := nodup_le hd hall
      simp [ids] at this
      omega) (fun x hx => by
      obtain ⟨h1, h2⟩ := (hm x).1 hx
      obtain ⟨n, hn, rfl⟩ := List.mem_map.1 h1
      have hr := next_none.1 (runs_order L).next n hn
      have hex : ∃ d ∈ n.2, d ∉ orderOf L := by
        apply Classical.byContradiction
        intro hno
        have : ready (orderOf L) n = true := ready_iff.2 ⟨h2, fun d hd => by
          apply Decidable.byContradiction
          exact fun h => hno ⟨d, hd, h⟩⟩
        rw [hr] at this
        cases this
      obtain ⟨d, hdn, hd2⟩ := hex
      exact ⟨d, (hm d).2 ⟨hc n hn d hdn, hd2⟩, n, hn, rfl, hdn⟩)
    exact ⟨x, ((hm x).1 hx).1, p⟩
  · rintro ⟨a, ha, p⟩
    apply Decidable.byContradiction
    intro hl
    have hin : a ∈ orderOf L := all_in hG.nodup hG.sub (by simp [ids]; omega) ha
    obtain ⟨i, hi⟩ := List.getElem?_of_mem hin
    exact (order_topo hd).no_path hG.nodup hi hi (Nat.le_refl _) p

/-! ### whether a row may be -/
def twice (l : List Int) : Bool := !decide l.Nodup
def isLong (L : Row) : Bool := decide (64 < L.length) || L.any fun n => decide (8 < n.2.length)
def hasTwice (L : Row) : Bool := twice (ids L) || L.any fun n => twice n.2
def hasStranger (L : Row) : Bool := L.any fun n => n.2.any fun d => !(ids L).contains d
def mayOf (L : Row) : Int :=
  if isLong L then 3 else if hasTwice L then 130 else if hasStranger L then 5 else if (orderOf L).length < L.length then 131 else 0
theorem stranger_iff {L : Row} : hasStranger L = false ↔ Closed L := by
  simp [hasStranger, Closed]
theorem twice_iff {L : Row} : hasTwice L = false ↔ (ids L).Nodup ∧ ∀ n ∈ L, n.2.Nodup := by
  simp [hasTwice, twice]
theorem long_iff {L : Row} : isLong L = false ↔ L.length ≤ 64 ∧ ∀ n ∈ L, n.2.length ≤ 8 := by
  simp [isLong]
structure May (L : Row) : Prop where
  len : L.length ≤ 64
  deps : ∀ n ∈ L, n.2.length ≤ 8
  nodup : (ids L).Nodup
  once : ∀ n ∈ L, n.2.Nodup
  closed : Closed L
  acyclic : ∀ a, ¬ Path L a a
theorem may_iff {L : Row} : mayOf L = 0 ↔ May L := by
  unfold mayOf
  constructor
  · intro h
    cases h1 : isLong L with
    | true => simp [h1] at h
    | false =>
      cases h2 : hasTwice L with
      | true => simp [h1, h2] at h
      | false =>
        cases h3 : hasStranger L with
        | true => simp [h1, h2, h3] at h
        | false =>
          obtain ⟨a1, a2⟩ := long_iff.1 h1
          obtain ⟨b1, b2⟩ := twice_iff.1 h2
          have hc := stranger_iff.1 h3
          refine ⟨a1, a2, b1, b2, hc, fun a p => ?_⟩
          have hl := (order_full b1 hc).2 ⟨a, p.head, p⟩
          simp [h1, h2, h3, hl] at h
  · intro h
    have h1 := long_iff.2 ⟨h.len, h.deps⟩
    have h2 := twice_iff.2 ⟨h.nodup, h.once⟩
    have h3 := stranger_iff.2 h.closed
    have h4 : ¬ (orderOf L).length < L.length := fun hl => by
      obtain ⟨a, _, p⟩ := (order_full h.nodup h.closed).1 hl
      exact h.acyclic a p
    simp [h1, h2, h3, h4]
theorem may_circle {L : Row} (h : mayOf L = 131) : (ids L).Nodup ∧ Closed L ∧ L.length ≤ 64 ∧ ∃ a ∈ ids L, Path L a a := by
  unfold mayOf at h
  cases h1 : isLong L with
  | true => simp [h1] at h
  | false =>
    cases h2 : hasTwice L with
    | true => simp [h1, h2] at h
    | false =>
      cases h3 : hasStranger L with
      | true => simp [h1, h2, h3] at h
      | false =>
        obtain ⟨b1, _⟩ := twice_iff.1 h2
        have hc := stranger_iff.1 h3
        refine ⟨b1, hc, (long_iff.1 h1).1, (order_full b1 hc).1 ?_⟩
        apply Decidable.byContradiction
        intro hl
        simp [h1, h2, h3, hl] at h
theorem May.full {L : Row} (h : May L) : (orderOf L).length = L.length := by
  have h1 := (order_gone L).len
  have h4 : ¬ (orderOf L).length < L.length := fun hl => by
    obtain ⟨a, _, p⟩ := (order_full h.nodup h.closed).1 hl
    exact h.acyclic a p
  omega

/-! ### a row in another order -/
theorem cands_perm {L M : Row} (h : L.Perm M) (g : List Int) : (cands L g).Perm (cands M g) := (h.filter _).map _
theorem next_perm {L M : Row} (h : L.Perm M) (g : List Int) : next L g = next M g := by
  cases hn : next L g with
  | none => exact (next_none.2 fun n hm => next_none.1 hn n (h.mem_iff.2 hm)).symm
  | some x =>
    have k := next_some.1 hn
    exact (next_some.2 ⟨(cands_perm h g).mem_iff.1 k.mem, fun y hy => k.le y ((cands_perm h g).mem_iff.2 hy)⟩).symm
theorem order_perm {L M : Row} (h : L.Perm M) : orderOf L = orderOf M := by
  have hr : ∀ {g o : List Int}, Runs L g o → Runs M g o := by
    intro g o r
    induction r with
    | stop hn => exact .stop ((next_perm h _).symm.trans hn)
    | go hn _ ih => exact .go ((next_perm h _).symm.trans hn) ih
  exact (hr (runs_order L)).one (runs_order M)
theorem May.perm {L M : Row} (h : May L) (p : L.Perm M) : May M :=
  ⟨by rw [← p.length_eq]; exact h.len, fun n hn => h.deps n (p.mem_iff.2 hn), (p.map _).nodup_iff.1 h.nodup, fun n hn => h.once n (p.mem_iff.2 hn), fun n hn d hd => ((p.map (·.1)).mem_iff).1 (h.closed n (p.mem_iff.2 hn) d hd), fun a q => h.acyclic a ((path_perm p).2 q)⟩

/-! ### a row without somebody for whom nobody waits -/
theorem eraseIdx_mem {L : Row} {k : Nat} {n : Int × List Int} (hd : (ids L).Nodup) (hk : k < L.length) : n ∈ L.eraseIdx k ↔ n ∈ L ∧ n.1 ≠ L[k].1 := by
  have hsp : L = L.take k ++ L[k] :: L.drop (k + 1) := by rw [← List.drop_eq_getElem_cons hk, List.take_append_drop]
  have he : L.eraseIdx k = L.take k ++ L.drop (k + 1) := List.eraseIdx_eq_take_drop_succ L k
  have hd2 : (ids (L.take k) ++ L[k].1 :: ids (L.drop (k + 1))).Nodup := by
    have hd' := hd
    unfold ids at hd' ⊢
    rw [hsp, List.map_append, List.map_cons] at hd'
    exact hd'
  have hd3 := List.nodup_append.1 hd2
  have hd4 := List.nodup_cons.1 hd3.2.1
  rw [he]
  constructor
  · intro hn
    rcases List.mem_append.1 hn with hn | hn
    · refine ⟨List.mem_of_mem_take hn, fun e => ?_⟩
      exact hd3.2.2 n.1 (List.mem_map_of_mem hn) L[k].1 (by simp) e
    · refine ⟨List.mem_of_mem_drop hn, fun e => ?_⟩
      exact hd4.1 (e ▸ List.mem_map_of_mem hn)
  · rintro ⟨hn, hne⟩
    rw [hsp] at hn
    rcases List.mem_append.1 hn with hn | hn
    · exact List.mem_append.2 (.inl hn)
    · rcases List.mem_cons.1 hn with rfl | hn
      · exact absurd rfl hne
      · exact List.mem_append.2 (.inr hn)
theorem less_may {L : Row} (h : May L) {k : Nat} (hk : k < L.length) (hu : ∀ a, ¬ Edge L a L[k].1) : May (L.eraseIdx k) := by
  have hs : (L.eraseIdx k).Sublist L := List.eraseIdx_sublist L k
  have hm := fun n => eraseIdx_mem (n := n) h.nodup hk
  refine ⟨Nat.le_trans hs.length_le h.len, fun n hn => h.deps n (hs.subset hn), (hs.map (fun n : Int × List Int => n.1)).nodup h.nodup, fun n hn => h.once n (hs.subset hn), fun n hn d hd => ?_, fun a p => h.acyclic a (p.mono fun n hn => hs.subset hn)⟩
  have hn2 := ((hm n).1 hn).1
  obtain ⟨m, hm2, rfl⟩ := List.mem_map.1 (h.closed n hn2 d hd)
  exact List.mem_map_of_mem ((hm m).2 ⟨hm2, fun e => hu n.1 ⟨n, hn2, rfl, e ▸ hd⟩⟩)
theorem less_runs {L : Row} (h : May L) {k : Nat} (hk : k < L.length) (hu : ∀ a, ¬ Edge L a L[k].1) {g o : List Int} (r : Runs L g o) :
    Runs (L.eraseIdx k) (g.filter fun x => decide (x ≠ L[k].1)) (o.filter fun x => decide (x ≠ L[k].1)) := by
  have hm := fun n => eraseIdx_mem (n := n) h.nodup hk
  have key : ∀ (g : List Int) (n : Int × List Int), n ∈ L → n.1 ≠ L[k].1 → ready (g.filter fun x => decide (x ≠ L[k].1)) n = ready g n := fun g n hn hne => by
    rw [Bool.eq_iff_iff, ready_iff, ready_iff]
    simp only [List.mem_filter, decide_eq_true_eq]
    refine ⟨fun ⟨h1, h2⟩ => ⟨fun hg => h1 ⟨hg, hne⟩, fun d hd => (h2 d hd).1⟩, fun ⟨h1, h2⟩ => ⟨fun hg => h1 hg.1, fun d hd => ⟨h2 d hd, fun e => hu n.1 ⟨n, hn, rfl, e ▸ hd⟩⟩⟩⟩
  induction r with
  | stop hn =>
    refine .stop (next_none.2 fun n hn2 => ?_)
    obtain ⟨h1, h2⟩ := (hm n).1 hn2
    rw [key _ n h1 h2]
    exact next_none.1 hn n h1
  | @go g o x hn _ ih =>
    by_cases hx : x = L[k].1
    · rw [List.filter_append, show ([x].filter fun x => decide (x ≠ L[k].1)) = [] by simp [hx], List.append_nil] at ih
      exact ih
    · rw [List.filter_append, show ([x].filter fun x => decide (x ≠ L[k].1)) = [x] by simp [hx]] at ih
      refine .go (next_some.2 ⟨?_, fun y hy => ?_⟩) ih
      · obtain ⟨n, h1, rfl, h2⟩ := mem_cands.1 (next_some.1 hn).mem
        exact mem_cands.2 ⟨n, (hm n).2 ⟨h1, hx⟩, rfl, by rw [key _ n h1 hx]; exact h2⟩
      · obtain ⟨n, h1, rfl, h2⟩ := mem_cands.1 hy
        obtain ⟨h3, h4⟩ := (hm n).1 h1
        rw [key _ n h3 h4] at h2
        exact (next_some.1 hn).le _ (mem_cands.2 ⟨n, h3, rfl, h2⟩)
theorem less_order {L : Row} (h : May L) {k : Nat} (hk : k < L.length) (hu : ∀ a, ¬ Edge L a L[k].1) : orderOf (L.eraseIdx k) = (orderOf L).filter fun x => decide (x ≠ L[k].1) :=
  (runs_order _).one (less_runs h hk hu (runs_order L))

/-! ### a Dep more -/
def more (L : Row) (f : Nat) (d : Int) : Row := L.set f ((L.getD f (0, [])).1, (L.getD f (0, [])).2 ++ [d])
theorem more_len (L : Row) (f : Nat) (d : Int) : (more L f d).length = L.length := by simp [more]
theorem getD_at {L : Row} {f : Nat} (hf : f < L.length) : L.getD f (0, []) = L[f] := by simp [List.getD, hf]
theorem more_ids {L : Row} {f : Nat} (hf : f < L.length) (d : Int) : ids (more L f d) = ids L := by
  unfold ids more
  rw [List.map_set, getD_at hf]
  apply List.ext_getElem (by simp)
  intro i h1 h2
  rw [List.getElem_set]
  split
  · rename_i e; subst e; simp
  · rfl
theorem more_edge {L : Row} {f : Nat} (hf : f < L.length) (d : Int) {a b : Int} : Edge (more L f d) a b ↔ Edge L a b ∨ (a = L[f].1 ∧ b = d) := by
  have hmem : ∀ n, n ∈ more L f d ↔ n = (L[f].1, L[f].2 ++ [d]) ∨ ∃ i, ∃ h : i < L.length, i ≠ f ∧ L[i] = n := fun n => by
    unfold more
    rw [getD_at hf, List.mem_iff_getElem]
    constructor
    · rintro ⟨i, hi, rfl⟩
      rw [List.getElem_set]
      split
      · exact .inl rfl
      · rename_i hne
        exact .inr ⟨i, by simpa using hi, fun e => hne e.symm, rfl⟩
    · rintro (rfl | ⟨i, hi, hne, rfl⟩)
      · exact ⟨f, by simpa using hf, by simp⟩
      · exact ⟨i, by simpa using hi, by rw [List.getElem_set_ne (fun e => hne e.symm)]⟩
  constructor
  · rintro ⟨n, hn, rfl, hb⟩
    rcases (hmem n).1 hn with rfl | ⟨i, hi, _, rfl⟩
    · rcases List.mem_append.1 hb with hb | hb
      · exact .inl ⟨L[f], List.getElem_mem hf, rfl, hb⟩
      · simp at hb
        exact .inr ⟨rfl, hb⟩
    · exact .inl ⟨L[i], List.getElem_mem hi, rfl, hb⟩
  · rintro (⟨n, hn, rfl, hb⟩ | ⟨rfl, rfl⟩)
    · obtain ⟨i, hi, rfl⟩ := List.getElem_of_mem hn
      by_cases he : i = f
      · subst he
        exact ⟨_, (hmem _).2 (.inl rfl), rfl, List.mem_append.2 (.inl hb)⟩
      · exact ⟨L[i], (hmem _).2 (.inr ⟨i, hi, he, rfl⟩), rfl, hb⟩
    · exact ⟨_, (hmem _).2 (.inl rfl), rfl, by simp⟩
theorem more_path {L : Row} {f : Nat} (hf : f < L.length) {d a b : Int} (p : Path (more L f d) a b) :
    Path L a b ∨ ((a = L[f].1 ∨ Path L a L[f].1) ∧ (b = d ∨ Path L d b)) := by
  induction p with
  | one e =>
    rcases (more_edge hf d).1 e with e | ⟨rfl, rfl⟩
    · exact .inl (.one e)
    · exact .inr ⟨.inl rfl, .inl rfl⟩
  | more e _ ih =>
    rcases (more_edge hf d).1 e with e | ⟨rfl, rfl⟩
    · rcases ih with p | ⟨h1, h2⟩
      · exact .inl (.more e p)
      · refine .inr ⟨.inr ?_, h2⟩
        rcases h1 with rfl | p
        · exact .one e
        · exact .more e p
    · rcases ih with p | ⟨_, h2⟩
      · exact .inr ⟨.inl rfl, .inr p⟩
      · exact .inr ⟨.inl rfl, h2⟩
/-- with one Dep more, of somebody who is not reached back, there still is an order -/
theorem more_may {L : Row} (h : May L) {f t : Nat} (hf : f < L.length) (ht : t < L.length) (h1 : isLong (more L f L[t].1) = false) (h2 : hasTwice (more L f L[t].1) = false) :
    mayOf (more L f L[t].1) = 0 ↔ f ≠ t ∧ ¬ Path L L[t].1 L[f].1 := by
  have hi := more_ids hf L[t].1
  obtain ⟨a1, a2⟩ := long_iff.1 h1
  obtain ⟨b1, b2⟩ := twice_iff.1 h2
  have hc : Closed (more L f L[t].1) := fun n hn d hd => by
    rw [hi]
    rcases (more_edge hf L[t].1).1 ⟨n, hn, rfl, hd⟩ with ⟨m, hm, _, hdm⟩ | ⟨_, rfl⟩
    · exact h.closed m hm d hdm
    · exact List.mem_map_of_mem (List.getElem_mem ht)
  have hft : L[f].1 = L[t].1 → f = t := fun e =>
    nodup_inj (g := ids L) h.nodup (by simpa [ids] using hf) (by simpa [ids] using ht) (by simpa [ids] using e)
  have up : ∀ {a b : Int}, Path L a b → Path (more L f L[t].1) a b := fun p => by
    induction p with
    | one e => exact .one ((more_edge hf _).2 (.inl e))
    | more e _ ih => exact .more ((more_edge hf _).2 (.inl e)) ih
  rw [may_iff]
  constructor
  · intro hM
    have hstep : Edge (more L f L[t].1) L[f].1 L[t].1 := (more_edge hf _).2 (.inr ⟨rfl, rfl⟩)
    refine ⟨fun e => ?_, fun p => ?_⟩
    · subst e
      exact hM.acyclic _ (.one hstep)
    · exact hM.acyclic _ (.more hstep (up p))
  · rintro ⟨hne, hnp⟩
    refine ⟨a1, a2, b1, b2, hc, fun a p => ?_⟩
    rcases more_path hf p with p | ⟨h3 | h3, h4 | h4⟩
    · exact h.acyclic _ p
    · exact hne (hft (h3.symm.trans h4))
    · exact hnp (h3 ▸ h4)
    · exact hnp (h4 ▸ h3)
    · exact hnp (h4.trans h3)

/-! ### users -/
def ins (x : Int) : List Int → List Int
  | [] => [x]
  | y :: l => if x < y then x :: y :: l else if x = y then y :: l else y :: ins x l
theorem mem_ins {x z : Int} {l : List Int} : z ∈ ins x l ↔ z = x ∨ z ∈ l := by
  induction l with
  | nil => simp [ins]
  | cons y l ih =>
    simp only [ins]
    split
    · simp
    · split
      · rename_i e; subst e; simp
      · simp only [List.mem_cons, ih]
        constructor
        · rintro (h | h | h)
          · exact .inr (.inl h)
          · exact .inl h
          · exact .inr (.inr h)
        · rintro (h | h | h)
          · exact .inr (.inl h)
          · exact .inl h
          · exact .inr (.inr h)
theorem ins_lt {x : Int} {l : List Int} (h : l.Pairwise (· < ·)) : (ins x l).Pairwise (· < ·) := by
  induction l with
  | nil => simp [ins]
  | cons y l ih =>
    obtain ⟨h1, h2⟩ := List.pairwise_cons.1 h
    simp only [ins]
    split
    · rename_i hxy
      refine List.pairwise_cons.2 ⟨fun z hz => ?_, h⟩
      rcases List.mem_cons.1 hz with rfl | hz
      · exact hxy
      · have := h1 z hz; omega
    · split
      · exact h
      · refine List.pairwise_cons.2 ⟨fun z hz => ?_, ih h2⟩
        rcases mem_ins.1 hz with rfl | hz
        · omega
        · exact h1 z hz
def usersOf (L : Row) (id : Int) : List Int := (L.filter fun n => n.2.contains id).foldr (fun n l => ins n.1 l) []
structure IsUsers (L : Row) (id : Int) (l : List Int) : Prop where
  rise : l.Pairwise (· < ·)
  mem : ∀ x, x ∈ l ↔ Edge L x id
theorem users_is (L : Row) (id : Int) : IsUsers L id (usersOf L id) := by
  have h : ∀ M : Row, ((M.foldr (fun n l => ins n.1 l) []).Pairwise (· < ·)) ∧ ∀ x, x ∈ M.foldr (fun n l => ins n.1 l) [] ↔ x ∈ ids M := by
    intro M
    induction M with
    | nil => simp [ids]
    | cons n M ih =>
      refine ⟨ins_lt ih.1, fun x => ?_⟩
      simp only [List.foldr_cons, mem_ins, ih.2, ids, List.map_cons, List.mem_cons]
  obtain ⟨h1, h2⟩ := h (L.filter fun n => n.2.contains id)
  refine ⟨h1, fun x => (h2 x).trans ?_⟩
  simp only [ids, List.mem_map, List.mem_filter, List.contains_iff_mem, Edge]
  exact ⟨fun ⟨n, ⟨h1, h2⟩, h3⟩ => ⟨n, h1, h3, h2⟩, fun ⟨n, h1, h3, h2⟩ => ⟨n, ⟨h1, h2⟩, h3⟩⟩
theorem rise_one {l : List Int} : ∀ {m : List Int}, l.Pairwise (· < ·) → m.Pairwise (· < ·) → (∀ x, x ∈ l ↔ x ∈ m) → l = m := by
  induction l with
  | nil =>
    intro m _ _ h
    cases m with
    | nil => rfl
    | cons y m => exact absurd ((h y).2 (by simp)) (by simp)
  | cons x l ih =>
    intro m hl hm h
    cases m with
    | nil => exact absurd ((h x).1 (by simp)) (by simp)
    | cons y m =>
      obtain ⟨l1, l2⟩ := List.pairwise_cons.1 hl
      obtain ⟨m1, m2⟩ := List.pairwise_cons.1 hm
      have hxy : x = y := by
        have a := (h x).1 (by simp)
        have b := (h y).2 (by simp)
        rcases List.mem_cons.1 a with a | a
        · exact a
        · rcases List.mem_cons.1 b with b | b
          · exact b.symm
          · have := m1 _ a; have := l1 _ b; omega
      subst hxy
      rw [ih l2 m2 fun z => ?_]
      constructor
      · intro hz
        rcases List.mem_cons.1 ((h z).1 (by simp [hz])) with rfl | hz2
        · have := l1 _ hz; omega
        · exact hz2
      · intro hz
        rcases List.mem_cons.1 ((h z).2 (by simp [hz])) with rfl | hz2
        · have := m1 _ hz; omega
        · exact hz2
theorem IsUsers.eq {L : Row} {id : Int} {l : List Int} (h : IsUsers L id l) : l = usersOf L id :=
  rise_one h.rise (users_is L id).rise fun x => (h.mem x).trans ((users_is L id).mem x).symm

end Go.Proofs.YtpbnjibomdilhaaGreatDoor.Gr
