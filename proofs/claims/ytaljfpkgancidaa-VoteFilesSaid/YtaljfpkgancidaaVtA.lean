/- Plain mathematics of layer 11: a promise's file, a shot's file. No program is spoken of here. Plain mathematics of VoteKept: one byte of a file's first frame is another one; its last byte is cut off. No program is spoken of here. -/
import Derived.Test.YtaljfpkgancidaaTornMath
namespace Go.Proofs.Ytaljfpkgancidaa.Vt
open Num (put dec)
open Go.Proofs.Ytaljfpkgancidaa.Frame

/-- numbers, one behind the other -/
def recOf : List Nat → List Int
  | [] => []
  | n :: ns => put n ++ recOf ns

def Small (ns : List Nat) : Prop := ∀ n ∈ ns, n < 18446744073709551616

theorem recOf_append : ∀ (a b : List Nat), recOf (a ++ b) = recOf a ++ recOf b
  | [], b => rfl
  | n :: a, b => by simp [recOf, recOf_append a b]
theorem recOf_snoc (a : List Nat) (n : Nat) : recOf (a ++ [n]) = recOf a ++ put n := by simp [recOf_append, recOf]
theorem recOf_len : ∀ ns : List Nat, ns.length ≤ (recOf ns).length ∧ (recOf ns).length ≤ 10 * ns.length
  | [] => by simp [recOf]
  | n :: ns => by
    have h1 := Num.put_len n
    have h2 := recOf_len ns
    simp only [recOf, List.length_append, List.length_cons]
    omega
theorem recOf_range : ∀ ns : List Nat, Small ns → ∀ x ∈ recOf ns, 0 ≤ x ∧ x ≤ 255
  | [], _, x, h => by simp [recOf] at h
  | n :: ns, hs, x, h => by
    rcases List.mem_append.1 h with h | h
    · exact Num.enc_range 9 n (Nat.lt_trans (hs n (by simp)) (by decide)) x h
    · exact recOf_range ns (fun m hm => hs m (by simp [hm])) x h

/-- the numbers that were taken, as far as they were: k bytes were gone over -/
inductive Gone (bs : List Int) : List Nat → Nat → Prop
  | start : Gone bs [] 0
  | next {ns k n j} : Gone bs ns k → dec 10 0 0 (bs.drop k) = some (n, j) → Gone bs (ns ++ [n]) (k + j)

theorem Gone.is {bs : List Int} {ns : List Nat} {k : Nat} (hr : ∀ x ∈ bs, 0 ≤ x ∧ x ≤ 255) (h : Gone bs ns k) : bs.take k = recOf ns ∧ k ≤ bs.length ∧ Small ns := by
  induction h with
  | start => exact ⟨by simp [recOf], Nat.zero_le _, fun n hn => by cases hn⟩
  | @next ns k n j h0 h1 ih =>
    obtain ⟨e1, e2, e3⟩ := ih
    have hr' : ∀ x ∈ bs.drop k, 0 ≤ x ∧ x ≤ 255 := fun x hx => hr x (List.mem_of_mem_drop hx)
    obtain ⟨d1, d2⟩ := Num.dec_is hr' h1
    obtain ⟨d3, d4, d5⟩ := Num.dec_lt 10 0 0 (bs.drop k) n j (by omega) (by simp) hr' h1
    rw [List.length_drop] at d5
    refine ⟨by rw [List.take_add, e1, d1, recOf_snoc], by omega, fun m hm => ?_⟩
    rcases List.mem_append.1 hm with hm | hm
    · exact e3 m hm
    · simp at hm; subst hm; exact d3

theorem recOf_cons_at {ms : List Nat} {i : Nat} (hi : i < ms.length) : recOf ms = recOf (ms.take i) ++ (put ms[i] ++ recOf (ms.drop (i + 1))) := by
  conv => lhs; rw [← List.take_append_drop i ms]
  rw [recOf_append, List.drop_eq_getElem_cons hi]
  rfl

theorem Gone.of {ms : List Nat} (hs : Small ms) {bs : List Int} (hb : bs = recOf ms) {ns : List Nat} {k : Nat} (h : Gone bs ns k) : ns.length ≤ ms.length → ns = ms.take ns.length ∧ k = (recOf ns).length := by
  induction h with
  | start => intro _; exact ⟨by simp, rfl⟩
  | @next ns k n j h0 h1 ih =>
    intro hl
    rw [List.length_append, List.length_singleton] at hl
    obtain ⟨e1, e2⟩ := ih (by omega)
    have hi : ns.length < ms.length := by omega
    have hd : bs.drop k = put ms[ns.length] ++ recOf (ms.drop (ns.length + 1)) := by
      rw [hb, recOf_cons_at hi, ← e1, e2, List.drop_left]
    rw [hd, Num.dec_put _ (hs _ (List.getElem_mem hi))] at h1
    simp only [Option.some.injEq, Prod.mk.injEq] at h1
    obtain ⟨rfl, rfl⟩ := h1
    refine ⟨?_, by rw [recOf_snoc, List.length_append, e2]⟩
    rw [List.length_append, List.length_singleton, List.take_succ_eq_append_getElem hi, ← e1]

theorem Gone.more {ms : List Nat} (hs : Small ms) {bs : List Int} (hb : bs = recOf ms) {ns : List Nat} {k : Nat} (h : Gone bs ns k) (hl : ns.length < ms.length) : ∃ n j, dec 10 0 0 (bs.drop k) = some (n, j) := by
  obtain ⟨e1, e2⟩ := h.of hs hb (by omega)
  have hd : bs.drop k = put ms[ns.length] ++ recOf (ms.drop (ns.length + 1)) := by
    rw [hb, recOf_cons_at hl, ← e1, e2, List.drop_left]
  exact ⟨_, _, by rw [hd, Num.dec_put _ (hs _ (List.getElem_mem hl))]⟩

theorem Gone.whole {bs : List Int} {ns : List Nat} (hr : ∀ x ∈ bs, 0 ≤ x ∧ x ≤ 255) (h : Gone bs ns bs.length) : bs = recOf ns ∧ Small ns := by
  obtain ⟨h1, _, h3⟩ := h.is hr
  exact ⟨by rw [← h1, List.take_length], h3⟩
theorem Gone.not {bs : List Int} {ns : List Nat} {k : Nat} (h : Gone bs ns k) (hk : k ≠ bs.length) {ms : List Nat} (hs : Small ms) (hl : ms.length = ns.length) : bs ≠ recOf ms := fun hb => by
  obtain ⟨e1, e2⟩ := h.of hs hb (by omega)
  rw [← hl, List.take_length] at e1
  exact hk (by rw [e2, e1, hb])
theorem Gone.none {bs : List Int} {ns : List Nat} {k : Nat} (h : Gone bs ns k) (hd : dec 10 0 0 (bs.drop k) = none) {ms : List Nat} (hs : Small ms) (hl : ns.length < ms.length) : bs ≠ recOf ms := fun hb => by
  obtain ⟨n, j, e⟩ := h.more hs hb hl
  rw [hd] at e; cases e

theorem recOf_inj {a b : List Nat} (ha : Small a) (hb : Small b) (hl : a.length = b.length) (h : recOf a = recOf b) : a = b := by
  have go : ∀ i, i ≤ a.length → Gone (recOf a) (a.take i) (recOf (a.take i)).length := by
    intro i
    induction i with
    | zero => intro _; simpa [recOf] using Gone.start
    | succ i ih =>
      intro hi
      have h0 := ih (by omega)
      have hd : (recOf a).drop (recOf (a.take i)).length = put a[i] ++ recOf (a.drop (i + 1)) := by
        conv => lhs; rw [recOf_cons_at (show i < a.length by omega)]
        rw [List.drop_left]
      have h1 := Gone.next h0 (by rw [hd]; exact Num.dec_put _ (ha _ (List.getElem_mem (by omega))) _)
      rw [List.take_succ_eq_append_getElem (show i < a.length by omega), recOf_snoc, List.length_append]
      exact h1
  have h1 := go a.length (Nat.le_refl _)
  rw [List.take_length] at h1
  have h2 := (h1.of hb h (by omega)).1
  rw [hl, List.take_length] at h2
  exact h2

/-! an image's parts -/
def part (zs : List Int) (k : Nat) : List Int := (zs.drop (4000 * k)).take 4000
def count (n : Nat) : Nat := (n + 3999) / 4000
def parts (zs : List Int) : List (List Int) := (List.range (count zs.length)).map (part zs)
theorem part_len (zs : List Int) (k : Nat) : (part zs k).length = min (zs.length - 4000 * k) 4000 := by
  unfold part; rw [List.length_take, List.length_drop]; omega
theorem parts_len (zs : List Int) : (parts zs).length = count zs.length := by simp [parts]
theorem parts_at (zs : List Int) (k : Nat) (h : k < count zs.length) : (parts zs)[k]? = some (part zs k) := by simp [parts, h]
theorem part_range {zs : List Int} (hr : ∀ x ∈ zs, 0 ≤ x ∧ x ≤ 255) (k : Nat) : ∀ x ∈ part zs k, 0 ≤ x ∧ x ≤ 255 := fun x hx => hr x (List.mem_of_mem_drop (List.mem_of_mem_take hx))
theorem parts_small {zs : List Int} (z : List Int) (hz : z ∈ parts zs) : z.length ≤ 4000 := by
  obtain ⟨k, _, rfl⟩ := List.mem_map.1 hz
  rw [part_len]; omega
theorem parts_range {zs : List Int} (hr : ∀ x ∈ zs, 0 ≤ x ∧ x ≤ 255) (z : List Int) (hz : z ∈ parts zs) : ∀ x ∈ z, 0 ≤ x ∧ x ≤ 255 := by
  obtain ⟨k, _, rfl⟩ := List.mem_map.1 hz
  exact part_range hr k

/-- parts that were joined, as far as they fit an image of so many bytes -/
inductive Joins (long : Nat) : List (List Int) → List Int → Prop
  | start : Joins long [] []
  | next {rs img r} : Joins long rs img → r.length ≠ 0 → r.length = min (long - img.length) 4000 → Joins long (rs ++ [r]) (img ++ r)

theorem Joins.is {long : Nat} {rs : List (List Int)} {img : List Int} (h : Joins long rs img) :
    img.length = min (4000 * rs.length) long ∧ (rs ≠ [] → 4000 * (rs.length - 1) < long) ∧ ∀ j, j < rs.length → rs[j]? = some (part img j) := by
  induction h with
  | start => exact ⟨by simp, fun h => absurd rfl h, fun j hj => by simp at hj⟩
  | @next rs img r h0 h1 h2 ih =>
    obtain ⟨e1, e2, e3⟩ := ih
    have hlen : (rs ++ [r]).length = rs.length + 1 := by simp
    have h3 : img.length = 4000 * rs.length := by omega
    refine ⟨by rw [List.length_append, hlen]; omega, fun _ => by rw [hlen]; omega, fun j hj => ?_⟩
    rw [hlen] at hj
    rcases Nat.lt_or_ge j rs.length with hlt | hge
    · rw [List.getElem?_append_left hlt, e3 j hlt]
      unfold part
      rw [List.drop_append_of_le_length (by omega), List.take_append_of_le_length (by rw [List.length_drop]; omega)]
    · obtain rfl : j = rs.length := by omega
      rw [List.getElem?_append_right (Nat.le_refl _), Nat.sub_self]
      unfold part
      rw [← h3, List.drop_left, List.take_of_length_le (by omega)]
      rfl

theorem Joins.whole {rs : List (List Int)} {img : List Int} (h : Joins img.length rs img) : rs = parts img := by
  obtain ⟨e1, e2, e3⟩ := h.is
  have hn : rs.length = count img.length := by
    unfold count
    cases rs with
    | nil =>
      rw [List.length_nil] at e1 ⊢
      omega
    | cons r rs =>
      have := e2 (by simp)
      simp only [List.length_cons] at *
      omega
  apply List.ext_getElem?
  intro j
  rcases Nat.lt_or_ge j rs.length with hlt | hge
  · rw [e3 j hlt, parts_at _ _ (by omega)]
  · rw [List.getElem?_eq_none hge, List.getElem?_eq_none (by rw [parts_len]; omega)]

theorem flat_take (img : List Int) (k : Nat) (hk : k ≤ count img.length) : ((parts img).take k).flatten = img.take (4000 * k) := by
  induction k with
  | zero => simp
  | succ k ih =>
    have hlt : k < (parts img).length := by rw [parts_len]; omega
    have hp : (parts img)[k] = part img k := by
      have := parts_at img k (by omega)
      rw [List.getElem?_eq_getElem hlt] at this
      exact Option.some.inj this
    rw [List.take_succ_eq_append_getElem hlt, List.flatten_append, ih (by omega), hp]
    simp only [List.flatten_cons, List.flatten_nil, List.append_nil]
    rw [show 4000 * (k + 1) = 4000 * k + 4000 by omega, List.take_add]
    rfl
theorem flat_parts (img : List Int) : (parts img).flatten = img := by
  have h := flat_take img (count img.length) (Nat.le_refl _)
  rw [← parts_len, List.take_length, parts_len] at h
  rw [h]
  exact List.take_of_length_le (by unfold count; omega)

/-- the state of joining an image's own parts -/
theorem Joins.of {rs : List (List Int)} {im img : List Int} (h : Joins img.length rs im) : ∀ {k}, rs = (parts img).take k → k ≤ count img.length → im = img.take (4000 * k) := by
  induction h with
  | start =>
    intro k hk hc
    have : k = 0 := by
      have := congrArg List.length hk
      rw [List.length_take, parts_len] at this
      simp at this
      omega
    subst this
    simp
  | @next rs im r h0 h1 h2 ih =>
    intro k hk hc
    have hl := congrArg List.length hk
    rw [List.length_take, parts_len, List.length_append, List.length_singleton] at hl
    obtain ⟨k', rfl⟩ : ∃ k', k = k' + 1 := ⟨k - 1, by omega⟩
    have hlt : k' < (parts img).length := by rw [parts_len]; omega
    have hp : (parts img)[k'] = part img k' := by
      have := parts_at img k' (by omega)
      rw [List.getElem?_eq_getElem hlt] at this
      exact Option.some.inj this
    rw [List.take_succ_eq_append_getElem hlt] at hk
    obtain ⟨e1, e2⟩ := List.append_inj' hk rfl
    simp only [List.cons.injEq, and_true] at e2
    rw [ih e1 (by omega), e2, hp, show 4000 * (k' + 1) = 4000 * k' + 4000 by omega, List.take_add]
    rfl

theorem Joins.fit {rs : List (List Int)} {im img : List Int} {k : Nat} {r : List Int} (h : Joins img.length rs im) (hk : rs = (parts img).take k) (hlt : k < count img.length) (hr : (parts img)[k]? = some r) : r.length ≠ 0 ∧ r.length = min (img.length - im.length) 4000 := by
  have e := h.of hk (by omega)
  rw [parts_at _ _ hlt] at hr
  obtain rfl := Option.some.inj hr
  rw [e, part_len, List.length_take]
  unfold count at hlt
  omega

/-! files -/
def voteOf (t v : Nat) : List Int := frameOf (recOf [t, v])
def shotOf (i t : Nat) (img : List Int) : List Int := flat (recOf [i, t, img.length] :: parts img)

theorem flat_cons (z : List Int) (ls : List (List Int)) : flat (z :: ls) = frameOf z ++ flat ls := by simp [flat]
theorem flat_one (z : List Int) : flat [z] = frameOf z := by simp [flat]
theorem scans_flat (ls : List (List Int)) (hl : ∀ z ∈ ls, z.length ≤ 4096) : Scans (flat ls) ls (flat ls).length := by
  have := scans_none ls [] hl rfl
  simpa using this
theorem flat_inj {a b : List (List Int)} (ha : ∀ z ∈ a, z.length ≤ 4096) (hb : ∀ z ∈ b, z.length ≤ 4096) (h : flat a = flat b) : a = b :=
  ((scans_flat a ha).one (h ▸ scans_flat b hb)).1
theorem Scans.is {bs : List Int} {l : List (List Int)} {g : Nat} (h : Scans bs l g) : (∀ x ∈ bs, 0 ≤ x ∧ x ≤ 255) → bs.take g = flat l ∧ (∀ z ∈ l, z.length ≤ 4096) ∧ (∀ z ∈ l, ∀ x ∈ z, 0 ≤ x ∧ x ≤ 255) := by
  induction h with
  | stop _ => intro _; exact ⟨by simp [flat], by simp, by simp⟩
  | @more bs zs m l g h0 h1 ih =>
    intro hr
    obtain ⟨e1, e2, e3, e4⟩ := first_is hr h0
    obtain ⟨i1, i2, i3⟩ := ih (fun x hx => hr x (List.mem_of_mem_drop hx))
    refine ⟨by rw [List.take_add, e3, i1, flat_cons], fun z hz => ?_, fun z hz => ?_⟩
    · rcases List.mem_cons.1 hz with rfl | hz
      · exact e1
      · exact i2 z hz
    · rcases List.mem_cons.1 hz with rfl | hz
      · intro x hx
        have : x ∈ bs.take m := by rw [e3]; simp [frameOf, txt, hx]
        exact hr x (List.mem_of_mem_take this)
      · exact i3 z hz
theorem Scans.full {bs : List Int} {l : List (List Int)} {g : Nat} (hr : ∀ x ∈ bs, 0 ≤ x ∧ x ≤ 255) (h : Scans bs l g) (hg : g = bs.length) : bs = flat l := by
  rw [← (Scans.is h hr).1, hg, List.take_length]
theorem Scans.less {bs : List Int} {l : List (List Int)} {g : Nat} (h : Scans bs l g) (hg : g ≠ bs.length) {ls : List (List Int)} (hl : ∀ z ∈ ls, z.length ≤ 4096) : bs ≠ flat ls := fun e => by
  have h2 := scans_flat ls hl
  rw [← e] at h2
  exact hg (h.one h2).2
theorem Scans.own {bs : List Int} {l : List (List Int)} {g : Nat} (h : Scans bs l g) {ls : List (List Int)} (hl : ∀ z ∈ ls, z.length ≤ 4096) (e : bs = flat ls) : l = ls := by
  have h2 := scans_flat ls hl
  rw [← e] at h2
  exact (h.one h2).1

/-- what a file of these bytes tells as a promise -/
inductive GetIs (bs : List Int) : Option (Nat × Nat) → Prop
  | yes (t v : Nat) : t < 18446744073709551616 → v < 18446744073709551616 → bs = voteOf t v → GetIs bs (some (t, v))
  | no : (∀ t v, t < 18446744073709551616 → v < 18446744073709551616 → bs ≠ voteOf t v) → GetIs bs none

structure Shot where
  i : Nat
  t : Nat
  img : List Int
structure Shot.ok (s : Shot) : Prop where
  hi : s.i < 18446744073709551616
  ht : s.t < 18446744073709551616
  hl : s.img.length ≤ 262144
  hr : ∀ x ∈ s.img, 0 ≤ x ∧ x ≤ 255
def Shot.bytes (s : Shot) : List Int := shotOf s.i s.t s.img
/-- what a file of these bytes tells as a shot -/
inductive KeptIs (bs : List Int) : Option Shot → Prop
  | yes (s : Shot) : s.ok → bs = s.bytes → KeptIs bs (some s)
  | no : (∀ s : Shot, s.ok → bs ≠ s.bytes) → KeptIs bs none

theorem small2 {t v : Nat} (ht : t < 18446744073709551616) (hv : v < 18446744073709551616) : Small [t, v] := by
  intro n hn; simp at hn; rcases hn with rfl | rfl <;> assumption
theorem small3 {t v u : Nat} (ht : t < 18446744073709551616) (hv : v < 18446744073709551616) (hu : u < 18446744073709551616) : Small [t, v, u] := by
  intro n hn; simp at hn; rcases hn with rfl | rfl | rfl <;> assumption
theorem rec2_len (t v : Nat) : (recOf [t, v]).length ≤ 20 := by have := (recOf_len [t, v]).2; simpa using this
theorem rec3_len (t v u : Nat) : (recOf [t, v, u]).length ≤ 30 := by have := (recOf_len [t, v, u]).2; simpa using this
theorem vote_inj {t v t' v' : Nat} (ht : t < 18446744073709551616) (hv : v < 18446744073709551616) (ht' : t' < 18446744073709551616) (hv' : v' < 18446744073709551616) (h : voteOf t v = voteOf t' v') : t = t' ∧ v = v' := by
  have h1 := flat_inj (a := [recOf [t, v]]) (b := [recOf [t', v']]) (by intro z hz; simp at hz; subst hz; have := rec2_len t v; omega) (by intro z hz; simp at hz; subst hz; have := rec2_len t' v'; omega) (by rw [flat_one, flat_one]; exact h)
  simp only [List.cons.injEq, and_true] at h1
  have h2 := recOf_inj (small2 ht hv) (small2 ht' hv') rfl h1
  simpa using h2
theorem shot_small (s : Shot) : ∀ z ∈ recOf [s.i, s.t, s.img.length] :: parts s.img, z.length ≤ 4096 := by
  intro z hz
  rcases List.mem_cons.1 hz with rfl | hz
  · have := rec3_len s.i s.t s.img.length; omega
  · have := parts_small z hz; omega
theorem shot_range {s : Shot} (h : s.ok) : ∀ z ∈ recOf [s.i, s.t, s.img.length] :: parts s.img, ∀ x ∈ z, 0 ≤ x ∧ x ≤ 255 := by
  intro z hz
  rcases List.mem_cons.1 hz with rfl | hz
  · exact recOf_range _ (small3 h.hi h.ht (by have := h.hl; omega))
  · exact parts_range h.hr z hz
theorem shot_inj {s u : Shot} (hs : s.ok) (hu : u.ok) (h : s.bytes = u.bytes) : s = u := by
  have h1 := flat_inj (shot_small s) (shot_small u) h
  obtain ⟨h2, h3⟩ := List.cons.inj h1
  have h4 := recOf_inj (small3 (u := s.img.length) hs.hi hs.ht (by have := hs.hl; omega)) (small3 (u := u.img.length) hu.hi hu.ht (by have := hu.hl; omega)) rfl h2
  simp only [List.cons.injEq, and_true] at h4
  have h5 : s.img = u.img := by rw [← flat_parts s.img, ← flat_parts u.img, h3]
  cases s; cases u
  simp_all

theorem GetIs.one {bs : List Int} {a b : Option (Nat × Nat)} (h : GetIs bs a) (h' : GetIs bs b) : a = b := by
  cases h with
  | yes t v ht hv e =>
    cases h' with
    | yes t' v' ht' hv' e' =>
      obtain ⟨rfl, rfl⟩ := vote_inj ht hv ht' hv' (e.symm.trans e')
      rfl
    | no hn => exact absurd e (hn t v ht hv)
  | no hn =>
    cases h' with
    | yes t' v' ht' hv' e' => exact absurd e' (hn t' v' ht' hv')
    | no _ => rfl
theorem KeptIs.one {bs : List Int} {a b : Option Shot} (h : KeptIs bs a) (h' : KeptIs bs b) : a = b := by
  cases h with
  | yes s hs e =>
    cases h' with
    | yes s' hs' e' => rw [shot_inj hs hs' (e.symm.trans e')]
    | no hn => exact absurd e (hn s hs)
  | no hn =>
    cases h' with
    | yes s' hs' e' => exact absurd e' (hn s' hs')
    | no _ => rfl

/-- frames that are told, and what they say -/
theorem get_row {bs r : List Int} (hb : bs = flat [r]) {t v : Nat} (h : r = recOf [t, v]) (ht : t < 18446744073709551616) (hv : v < 18446744073709551616) : GetIs bs (some (t, v)) :=
  .yes t v ht hv (by rw [hb, h, flat_one]; rfl)
theorem get_not {bs : List Int} {l : List (List Int)} {g : Nat} (hs : Scans bs l g) (h : ∀ t v, t < 18446744073709551616 → v < 18446744073709551616 → g = bs.length → l ≠ [recOf [t, v]]) : GetIs bs none :=
  .no fun t v ht hv e => by
    have hl : ∀ z ∈ [recOf [t, v]], z.length ≤ 4096 := by intro z hz; simp at hz; subst hz; have := rec2_len t v; omega
    have e2 : bs = flat [recOf [t, v]] := by rw [e, flat_one]; rfl
    by_cases hg : g = bs.length
    · exact h t v ht hv hg (Scans.own hs hl e2)
    · exact Scans.less hs hg hl e2
theorem kept_rows {bs : List Int} {l : List (List Int)} (hb : bs = flat l) {i t : Nat} {img : List Int} (h : l = recOf [i, t, img.length] :: parts img) (hi : i < 18446744073709551616) (ht : t < 18446744073709551616) (hl : img.length ≤ 262144) (hr : ∀ x ∈ img, 0 ≤ x ∧ x ≤ 255) : KeptIs bs (some ⟨i, t, img⟩) :=
  .yes ⟨i, t, img⟩ ⟨hi, ht, hl, hr⟩ (by rw [hb, h]; rfl)
theorem kept_not {bs : List Int} {l : List (List Int)} {g : Nat} (hs : Scans bs l g) (h : ∀ s : Shot, s.ok → g = bs.length → l ≠ recOf [s.i, s.t, s.img.length] :: parts s.img) : KeptIs bs none :=
  .no fun s hok e => by
    by_cases hg : g = bs.length
    · exact h s hok hg (Scans.own hs (shot_small s) e)
    · exact Scans.less hs hg (shot_small s) e

end Go.Proofs.Ytaljfpkgancidaa.Vt

namespace Go.Proofs.Ytaljfpkgancidaa
open Num (put dec)

theorem Crc.steps_inj {a b : Nat} (ha : a < 4294967296) (hb : b < 4294967296) (k : Nat) (h : Crc.steps k a = Crc.steps k b) : a = b := by
  have h1 : Crc.steps k (a ^^^ b) = 0 := by rw [Crc.steps_xor, h, Nat.xor_self]
  have h2 := Crc.steps_ne (Crc.xor_lt ha hb) k h1
  have h3 := Crc.xor_back a b
  rw [h2, Nat.xor_zero] at h3
  exact h3

theorem Crc.crc_byte {zs ys : List Int} (hl : ys.length = zs.length) (hz : ∀ x ∈ zs, 0 ≤ x ∧ x ≤ 255) (hy : ∀ x ∈ ys, 0 ≤ x ∧ x ≤ 255) (j : Nat) (hj : j < zs.length) (hne : zs.getD j 0 ≠ ys.getD j 0) (heq : ∀ i, i ≠ j → zs.getD i 0 = ys.getD i 0) : Crc.crc zs ≠ Crc.crc ys := by
  have hlz := fun k => Crc.L_lt Crc.M_lt (Crc.raw zs) k
  have hly := fun k => Crc.L_lt Crc.M_lt (Crc.raw ys) k
  have e0 : Crc.L Crc.M (Crc.raw zs) (8 * j) = Crc.L Crc.M (Crc.raw ys) (8 * j) := Crc.L_congr _ _ fun m hm => by
    unfold Crc.raw
    rw [heq (m / 8) (by omega)]
  have hb : ∀ (vs : List Int), (∀ x ∈ vs, 0 ≤ x ∧ x ≤ 255) → ∀ i, (vs.getD i 0).toNat < 4294967296 := fun vs hv i => by
    have := getD_range hv i
    omega
  have step : ∀ k, j < k → k ≤ zs.length → Crc.L Crc.M (Crc.raw zs) (8 * k) ≠ Crc.L Crc.M (Crc.raw ys) (8 * k) := by
    intro k
    induction k with
    | zero => intro h; omega
    | succ k ih =>
      intro h1 h2 he
      rw [Crc.L_byte _ _ _ (getD_range hz k), Crc.L_byte _ _ _ (getD_range hy k)] at he
      have h3 := Crc.steps_inj (Crc.xor_lt (hlz _) (hb zs hz k)) (Crc.xor_lt (hly _) (hb ys hy k)) 8 he
      rcases Nat.lt_or_ge j k with hjk | hjk
      · rw [heq k (by omega)] at h3
        have h4 := congrArg (fun x => x ^^^ (ys.getD k 0).toNat) h3
        simp only [Nat.xor_assoc, Nat.xor_self, Nat.xor_zero] at h4
        exact ih hjk (by omega) h4
      · obtain rfl : k = j := by omega
        rw [e0] at h3
        have h4 := congrArg (fun x => Crc.L Crc.M (Crc.raw ys) (8 * k) ^^^ x) h3
        simp only [Crc.xor_back] at h4
        have h5 := getD_range hz k
        have h6 := getD_range hy k
        exact hne (by omega)
  have hs := step zs.length hj (Nat.le_refl _)
  unfold Crc.crc
  rw [hl]
  intro he
  have h4 := congrArg (fun x => Crc.M ^^^ x) he
  simp only [Crc.xor_back] at h4
  exact hs h4

namespace Frame
/-- another check: no frame any more -/
theorem first_tail (zs t4 rest : List Int) (ht : t4.length = 4) (hne : t4 ≠ tail (txt zs)) (hl : zs.length ≤ 4096) : firstOf (90 :: (txt zs ++ t4) ++ rest) = none := by
  have hd : dec 10 0 0 (put zs.length ++ (zs ++ (t4 ++ rest))) = some (zs.length, (put zs.length).length) := Num.dec_put _ (by omega) _
  have e : 90 :: (txt zs ++ t4) ++ rest = 90 :: (put zs.length ++ (zs ++ (t4 ++ rest))) := by simp [txt]
  have et : put zs.length ++ (zs ++ (t4 ++ rest)) = txt zs ++ (t4 ++ rest) := by simp [txt]
  rw [e]
  simp only [firstOf, if_true, hd]
  have hk : (put zs.length).length + zs.length = (txt zs).length := (txt_len zs).symm
  have e1 : (put zs.length ++ (zs ++ (t4 ++ rest))).take ((put zs.length).length + zs.length) = txt zs := by
    rw [et, hk, List.take_left]
  have e2 : ((put zs.length ++ (zs ++ (t4 ++ rest))).drop ((put zs.length).length + zs.length)).take 4 = t4 := by
    rw [et, hk, List.drop_left, ← ht, List.take_left]
  rw [e1, e2, if_neg]
  rintro ⟨_, _, h⟩
  exact hne h

theorem set_ne {zs : List Int} {j : Nat} {v : Int} (hj : j < zs.length) (h : v ≠ zs.getD j 0) : zs.set j v ≠ zs := fun e => by
  have h1 := congrArg (fun l => l.getD j 0) e
  simp [List.getD, hj] at h1 h
  exact h h1

theorem first_byte (r rest : List Int) (hl : r.length ≤ 100) (hr : ∀ x ∈ r, 0 ≤ x ∧ x ≤ 255) (p : Nat) (v : Int) (hp : p < r.length + 6) (hp1 : p ≠ 1) (hv : 0 ≤ v ∧ v ≤ 255) (hne : v ≠ (frameOf r).getD p 0) : firstOf ((frameOf r).set p v ++ rest) = none := by
  have hf := frame_short r hl
  have hput : put r.length = [(r.length : Int)] := by
    unfold put
    rw [Num.enc_small _ _ (by omega)]
  have ht : ∀ ys : List Int, ys.length = r.length → txt ys = (r.length : Int) :: ys := fun ys hy => by
    unfold txt
    rw [hy, hput]
    rfl
  rw [hf] at hne ⊢
  match p, hp, hp1, hne with
  | 0, _, _, hne =>
    simp at hne
    simp [firstOf, hne]
  | 1, _, h, _ => exact absurd rfl h
  | p + 2, hp, _, hne =>
    simp only [List.set_cons_succ]
    simp only [List.getD_cons_succ] at hne
    rcases Nat.lt_or_ge p r.length with hpl | hpl
    · have hg : (r ++ tail (txt r)).getD p 0 = r.getD p 0 := by
        simp [List.getD, List.getElem?_append_left hpl]
      rw [hg] at hne
      rw [List.set_append_left _ _ hpl]
      have hyl : (r.set p v).length = r.length := List.length_set
      have e : 90 :: (r.length : Int) :: (r.set p v ++ tail (txt r)) = 90 :: (txt (r.set p v) ++ tail (txt r)) := by rw [ht _ hyl]; rfl
      rw [e]
      refine first_spoilt r (r.set p v) rest hyl (fun he => ?_) (by omega)
      rw [ht r rfl, ht _ hyl] at he
      refine Crc.crc_byte (zs := (r.length : Int) :: r) (ys := (r.length : Int) :: r.set p v) (by simp) ?_ ?_ (p + 1) (by simp; omega) ?_ ?_ he.symm
      · intro x hx
        rcases List.mem_cons.1 hx with rfl | hx
        · omega
        · exact hr x hx
      · intro x hx
        rcases List.mem_cons.1 hx with rfl | hx
        · omega
        · rcases List.mem_or_eq_of_mem_set hx with hx | rfl
          · exact hr x hx
          · exact hv
      · simp only [List.getD_cons_succ]
        have : (r.set p v).getD p 0 = v := by simp [List.getD, hpl]
        rw [this]
        exact fun e => hne e.symm
      · intro i hi
        cases i with
        | zero => rfl
        | succ i =>
          simp only [List.getD_cons_succ]
          simp [List.getD, List.getElem?_set_ne (show p ≠ i by omega)]
    · have hq : p - r.length < 4 := by omega
      have hg : (r ++ tail (txt r)).getD p 0 = (tail (txt r)).getD (p - r.length) 0 := by
        simp [List.getD, List.getElem?_append_right hpl]
      rw [hg] at hne
      rw [List.set_append_right _ _ hpl]
      have e : 90 :: (r.length : Int) :: (r ++ (tail (txt r)).set (p - r.length) v) = 90 :: (txt r ++ (tail (txt r)).set (p - r.length) v) := by rw [ht r rfl]; rfl
      rw [e]
      exact first_tail r _ rest (by rw [List.length_set, tail_len]) (set_ne (by rw [tail_len]; omega) hne) (by omega)
end Frame

namespace Vt
open Go.Proofs.Ytaljfpkgancidaa.Frame

/-- bytes that are not frames alone -/
def Bad (bs : List Int) : Prop := ∃ l k, Scans bs l k ∧ k ≠ bs.length
theorem Bad.get {bs : List Int} (h : Bad bs) : GetIs bs none := by
  obtain ⟨l, k, hs, hk⟩ := h
  exact get_not hs fun _ _ _ _ e => absurd e hk
theorem Bad.kept {bs : List Int} (h : Bad bs) : KeptIs bs none := by
  obtain ⟨l, k, hs, hk⟩ := h
  exact kept_not hs fun _ _ e => absurd e hk

theorem bad_byte (r : List Int) (ls : List (List Int)) (hl : r.length ≤ 100) (hr : ∀ x ∈ r, 0 ≤ x ∧ x ≤ 255) (p : Nat) (v : Int) (hp : p < r.length + 6) (hp1 : p ≠ 1) (hv : 0 ≤ v ∧ v ≤ 255) (hne : v ≠ (flat (r :: ls)).getD p 0) : Bad ((flat (r :: ls)).set p v) := by
  have hfl := frame_short_len r hl
  rw [flat_cons] at hne ⊢
  have hg : (frameOf r ++ flat ls).getD p 0 = (frameOf r).getD p 0 := by
    simp [List.getD, List.getElem?_append_left (show p < (frameOf r).length by omega)]
  rw [hg] at hne
  rw [List.set_append_left _ _ (by omega)]
  refine ⟨[], 0, .stop (first_byte r _ hl hr p v hp hp1 hv hne), ?_⟩
  rw [List.length_append, List.length_set]
  omega
theorem bad_cut (ls : List (List Int)) (hne : ls ≠ []) (hl : ∀ z ∈ ls, z.length ≤ 4096) (hr : ∀ z ∈ ls, ∀ x ∈ z, 0 ≤ x ∧ x ≤ 255) : Bad ((flat ls).take ((flat ls).length - 1)) := by
  obtain ⟨l, z, rfl⟩ : ∃ l z, ls = l ++ [z] := ⟨ls.dropLast, ls.getLast hne, (List.dropLast_concat_getLast hne).symm⟩
  have hz := frame_len z
  have e : (flat (l ++ [z])).take ((flat (l ++ [z])).length - 1) = flat l ++ (frameOf z).take ((frameOf z).length - 1) := by
    rw [flat_snoc, List.length_append, List.take_append, List.take_of_length_le (by omega)]
    congr 2
    omega
  rw [e]
  refine ⟨l, _, scans_cut l z _ (fun y hy => hl y (by simp [hy])) (hl z (by simp)) (hr z (by simp)) (by omega), ?_⟩
  rw [List.length_append, List.length_take]
  omega

end Vt
end Go.Proofs.Ytaljfpkgancidaa
