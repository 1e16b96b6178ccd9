/- Plain mathematics of layer 11: a promise's file, a shot's file. No program is spoken of here. -/
import Derived.Test.YtjpbniajhkindaaTornMath
namespace Go.Proofs.Ytjpbniajhkindaa.Vt
open Num (put dec)
open Go.Proofs.Ytjpbniajhkindaa.Frame

/-- numbers, one behind the other -/
def recOf : List Nat → List Int
  | [] => []
  | n :: ns => put n ++ recOf ns

def Small (ns : List Nat) : Prop := ∀ n ∈ ns, n < 18446744073709551616

theorem recOf_append : ∀ (a b : List Nat), recOf (a ++ b) = recOf a ++ recOf b
  | [], b => rfl
  | n :: a, b => by simp [recOf, recOf_append a b]
theorem recOf_snoc (a : List Nat) (n : Nat) : recOf (a ++ [n]) = recOf a ++ put n := by simp [recOf_append, recOf]
theorem recOf_len : ∀ ns : List Nat, ns.length ≤ (recOf ns).length ∧ (recOf ns).length ≤ 10 * ns.length
  | [] => by simp [recOf]
  | n :: ns => by
    have h1 := Num.put_len n
    have h2 := recOf_len ns
    simp only [recOf, List.length_append, List.length_cons]
    omega
theorem recOf_range : ∀ ns : List Nat, Small ns → ∀ x ∈ recOf ns, 0 ≤ x ∧ x ≤ 255
  | [], _, x, h => by simp [recOf] at h
  | n :: ns, hs, x, h => by
    rcases List.mem_append.1 h with h | h
    · exact Num.enc_range 9 n (Nat.lt_trans (hs n (by simp)) (by decide)) x h
    · exact recOf_range ns (fun m hm => hs m (by simp [hm])) x h

/-- the numbers that were taken, as far as they were: k bytes were gone over -/
inductive Gone (bs : List Int) : List Nat → Nat → Prop
  | start : Gone bs [] 0
  | next {ns k n j} : Gone bs ns k → dec 10 0 0 (bs.drop k) = some (n, j) → Gone bs (ns ++ [n]) (k + j)

theorem Gone.is {bs : List Int} {ns : List Nat} {k : Nat} (hr : ∀ x ∈ bs, 0 ≤ x ∧ x ≤ 255) (h : Gone bs ns k) : bs.take k = recOf ns ∧ k ≤ bs.length ∧ Small ns := by
  induction h with
  | start => exact ⟨by simp [recOf], Nat.zero_le _, fun n hn => by cases hn⟩
  | @next ns k n j h0 h1 ih =>
    obtain ⟨e1, e2, e3⟩ := ih
    have hr' : ∀ x ∈ bs.drop k, 0 ≤ x ∧ x ≤ 255 := fun x hx => hr x (List.mem_of_mem_drop hx)
    obtain ⟨d1, d2⟩ := Num.dec_is hr' h1
    obtain ⟨d3, d4, d5⟩ := Num.dec_lt 10 0 0 (bs.drop k) n j (by omega) (by simp) hr' h1
    rw [List.length_drop] at d5
    refine ⟨by rw [List.take_add, e1, d1, recOf_snoc], by omega, fun m hm => ?_⟩
    rcases List.mem_append.1 hm with hm | hm
    · exact e3 m hm
    · simp at hm; subst hm; exact d3

theorem recOf_cons_at {ms : List Nat} {i : Nat} (hi : i < ms.length) : recOf ms = recOf (ms.take i) ++ (put ms[i] ++ recOf (ms.drop (i + 1))) := by
  conv => lhs; rw [← List.take_append_drop i ms]
  rw [recOf_append, List.drop_eq_getElem_cons hi]
  rfl

theorem Gone.of {ms : List Nat} (hs : Small ms) {bs : List Int} (hb : bs = recOf ms) {ns : List Nat} {k : Nat} (h : Gone bs ns k) : ns.length ≤ ms.length → ns = ms.take ns.length ∧ k = (recOf ns).length := by
  induction h with
  | start => intro _; exact ⟨by simp, rfl⟩
  | @next ns k n j h0 h1 ih =>
    intro hl
    rw [List.length_append, List.length_singleton] at hl
    obtain ⟨e1, e2⟩ := ih (by omega)
    have hi : ns.length < ms.length := by omega
    have hd : bs.drop k = put ms[ns.length] ++ recOf (ms.drop (ns.length + 1)) := by
      rw [hb, recOf_cons_at hi, ← e1, e2, List.drop_left]
    rw [hd, Num.dec_put _ (hs _ (List.getElem_mem hi))] at h1
    simp only [Option.some.injEq, Prod.mk.injEq] at h1
    obtain ⟨rfl, rfl⟩ := h1
    refine ⟨?_, by rw [recOf_snoc, List.length_append, e2]⟩
    rw [List.length_append, List.length_singleton, List.take_succ_eq_append_getElem hi, ← e1]

theorem Gone.more {ms : List Nat} (hs : Small ms) {bs : List Int} (hb : bs = recOf ms) {ns : List Nat} {k : Nat} (h : Gone bs ns k) (hl : ns.length < ms.length) : ∃ n j, dec 10 0 0 (bs.drop k) = some (n, j) := by
  obtain ⟨e1, e2⟩ := h.of hs hb (by omega)
  have hd : bs.drop k = put ms[ns.length] ++ recOf (ms.drop (ns.length + 1)) := by
    rw [hb, recOf_cons_at hl, ← e1, e2, List.drop_left]
  exact ⟨_, _, by rw [hd, Num.dec_put _ (hs _ (List.getElem_mem hl))]⟩

theorem Gone.whole {bs : List Int} {ns : List Nat} (hr : ∀ x ∈ bs, 0 ≤ x ∧ x ≤ 255) (h : Gone bs ns bs.length) : bs = recOf ns ∧ Small ns := by
  obtain ⟨h1, _, h3⟩ := h.is hr
  exact ⟨by rw [← h1, List.take_length], h3⟩
theorem Gone.not {bs : List Int} {ns : List Nat} {k : Nat} (h : Gone bs ns k) (hk : k ≠ bs.length) {ms : List Nat} (hs : Small ms) (hl : ms.length = ns.length) : bs ≠ recOf ms := fun hb => by
  obtain ⟨e1, e2⟩ := h.of hs hb (by omega)
  rw [← hl, List.take_length] at e1
  exact hk (by rw [e2, e1, hb])
theorem Gone.none {bs : List Int} {ns : List Nat} {k : Nat} (h : Gone bs ns k) (hd : dec 10 0 0 (bs.drop k) = none) {ms : List Nat} (hs : Small ms) (hl : ns.length < ms.length) : bs ≠ recOf ms := fun hb => by
  obtain ⟨n, j, e⟩ := h.more hs hb hl
  rw [hd] at e; cases e

theorem recOf_inj {a b : List Nat} (ha : Small a) (hb : Small b) (hl : a.length = b.length) (h : recOf a = recOf b) : a = b := by
  have go : ∀ i, i ≤ a.length → Gone (recOf a) (a.take i) (recOf (a.take i)).length := by
    intro i
    induction i with
    | zero => intro _; simpa [recOf] using Gone.start
    | succ i ih =>
      intro hi
      have h0 := ih (by omega)
      have hd : (recOf a).drop (recOf (a.take i)).length = put a[i] ++ recOf (a.drop (i + 1)) := by
        conv => lhs; rw [recOf_cons_at (show i < a.length by omega)]
        rw [List.drop_left]
      have h1 := Gone.next h0 (by rw [hd]; exact Num.dec_put _ (ha _ (List.getElem_mem (by omega))) _)
      rw [List.take_succ_eq_append_getElem (show i < a.length by omega), recOf_snoc, List.length_append]
      exact h1
  have h1 := go a.length (Nat.le_refl _)
  rw [List.take_length] at h1
  have h2 := (h1.of hb h (by omega)).1
  rw [hl, List.take_length] at h2
  exact h2

/-! an image's parts -/
def part (zs : List Int) (k : Nat) : List Int := (zs.drop (4000 * k)).take 4000
def count (n : Nat) : Nat := (n + 3999) / 4000
def parts (zs : List Int) : List (List Int) := (List.range (count zs.length)).map (part zs)
theorem part_len (zs : List Int) (k : Nat) : (part zs k).length = min (zs.length - 4000 * k) 4000 := by
  unfold part; rw [List.length_take, List.length_drop]; omega
theorem parts_len (zs : List Int) : (parts zs).length = count zs.length := by simp [parts]
theorem parts_at (zs : List Int) (k : Nat) (h : k < count zs.length) : (parts zs)[k]? = some (part zs k) := by simp [parts, h]
theorem part_range {zs : List Int} (hr : ∀ x ∈ zs, 0 ≤ x ∧ x ≤ 255) (k : Nat) : ∀ x ∈ part zs k, 0 ≤ x ∧ x ≤ 255 := fun x hx => hr x (List.mem_of_mem_drop (List.mem_of_mem_take hx))
theorem parts_small {zs : List Int} (z : List Int) (hz : z ∈ parts zs) : z.length ≤ 4000 := by
  obtain ⟨k, _, rfl⟩ := List.mem_map.1 hz
  rw [part_len]; omega
theorem parts_range {zs : List Int} (hr : ∀ x ∈ zs, 0 ≤ x ∧ x ≤ 255) (z : List Int) (hz : z ∈ parts zs) : ∀ x ∈ z, 0 ≤ x ∧ x ≤ 255 := by
  obtain ⟨k, _, rfl⟩ := List.mem_map.1 hz
  exact part_range hr k

/-- parts that were joined, as far as they fit an image of so many bytes -/
inductive Joins (long : Nat) : List (List Int) → List Int → Prop
  | start : Joins long [] []
  | next {rs img r} : Joins long rs img → r.length ≠ 0 → r.length = min (long - img.length) 4000 → Joins long (rs ++ [r]) (img ++ r)

theorem Joins.is {long : Nat} {rs : List (List Int)} {img : List Int} (h : Joins long rs img) :
    img.length = min (4000 * rs.length) long ∧ (rs ≠ [] → 4000 * (rs.length - 1) < long) ∧ ∀ j, j < rs.length → rs[j]? = some (part img j) := by
  induction h with
  | start => exact ⟨by simp, fun h => absurd rfl h, fun j hj => by simp at hj⟩
  | @next rs img r h0 h1 h2 ih =>
    obtain ⟨e1, e2, e3⟩ := ih
    have hlen : (rs ++ [r]).length = rs.length + 1 := by simp
    have h3 : img.length = 4000 * rs.length := by omega
    refine ⟨by rw [List.length_append, hlen]; omega, fun _ => by rw [hlen]; omega, fun j hj => ?_⟩
    rw [hlen] at hj
    rcases Nat.lt_or_ge j rs.length with hlt | hge
    · rw [List.getElem?_append_left hlt, e3 j hlt]
      unfold part
      rw [List.drop_append_of_le_length (by omega), List.take_append_of_le_length (by rw [List.length_drop]; omega)]
    · obtain rfl : j = rs.length := by omega
      rw [List.getElem?_append_right (Nat.le_refl _), Nat.sub_self]
      unfold part
      rw [← h3, List.drop_left, List.take_of_length_le (by omega)]
      rfl

theorem Joins.whole {rs : List (List Int)} {img : List Int} (h : Joins img.length rs img) : rs = parts img := by
  obtain ⟨e1, e2, e3⟩ := h.is
  have hn : rs.length = count img.length := by
    unfold count
    cases rs with
    | nil =>
      rw [List.length_nil] at e1 ⊢
      omega
    | cons r rs =>
      have := e2 (by simp)
      simp only [List.length_cons] at *
      omega
  apply List.ext_getElem?
  intro j
  rcases Nat.lt_or_ge j rs.length with hlt | hge
  · rw [e3 j hlt, parts_at _ _ (by omega)]
  · rw [List.getElem?_eq_none hge, List.getElem?_eq_none (by rw [parts_len]; omega)]

theorem flat_take (img : List Int) (k : Nat) (hk : k ≤ count img.length) : ((parts img).take k).flatten = img.take (4000 * k) := by
  induction k with
  | zero => simp
  | succ k ih =>
    have hlt : k < (parts img).length := by rw [parts_len]; omega
    have hp : (parts img)[k] = part img k := by
      have := parts_at img k (by omega)
      rw [List.getElem?_eq_getElem hlt] at this
      exact Option.some.inj this
    rw [List.take_succ_eq_append_getElem hlt, List.flatten_append, ih (by omega), hp]
    simp only [List.flatten_cons, List.flatten_nil, List.append_nil]
    rw [show 4000 * (k + 1) = 4000 * k + 4000 by omega, List.take_add]
    rfl
theorem flat_parts (img : List Int) : (parts img).flatten = img := by
  have h := flat_take img (count img.length) (Nat.le_refl _)
  rw [← parts_len, List.take_length, parts_len] at h
  rw [h]
  exact List.take_of_length_le (by unfold count; omega)

/-- the state of joining an image's own parts -/
theorem Joins.of {rs : List (List Int)} {im img : List Int} (h : Joins img.length rs im) : ∀ {k}, rs = (parts img).take k → k ≤ count img.length → im = img.take (4000 * k) := by
  induction h with
  | start =>
    intro k hk hc
    have : k = 0 := by
      have := congrArg List.length hk
      rw [List.length_take, parts_len] at this
      simp at this
      omega
    subst this
    simp
  | @next rs im r h0 h1 h2 ih =>
    intro k hk hc
    have hl := congrArg List.length hk
    rw [List.length_take, parts_len, List.length_append, List.length_singleton] at hl
    obtain ⟨k', rfl⟩ : ∃ k', k = k' + 1 := ⟨k - 1, by omega⟩
    have hlt : k' < (parts img).length := by rw [parts_len]; omega
    have hp : (parts img)[k'] = part img k' := by
      have := parts_at img k' (by omega)
      rw [List.getElem?_eq_getElem hlt] at this
      exact Option.some.inj this
    rw [List.take_succ_eq_append_getElem hlt] at hk
    obtain ⟨e1, e2⟩ := List.append_inj' hk rfl
    simp only [List.cons.injEq, and_true] at e2
    rw [ih e1 (by omega), e2, hp, show 4000 * (k' + 1) = 4000 * k' + 4000 by omega, List.take_add]
    rfl

theorem Joins.fit {rs : List (List Int)} {im img : List Int} {k : Nat} {r : List Int} (h : Joins img.length rs im) (hk : rs = (parts img).take k) (hlt : k < count img.length) (hr : (parts img)[k]? = some r) : r.length ≠ 0 ∧ r.length = min (img.length - im.length) 4000 := by
  have e := h.of hk (by omega)
  rw [parts_at _ _ hlt] at hr
  obtain rfl := Option.some.inj hr
  rw [e, part_len, List.length_take]
  unfold count at hlt
  omega

/-! files -/
def voteOf (t v : Nat) : List Int := frameOf (recOf [t, v])
def shotOf (i t : Nat) (img : List Int) : List Int := flat (recOf [i, t, img.length] :: parts img)

theorem flat_cons (z : List Int) (ls : List (List Int)) : flat (z :: ls) = frameOf z ++ flat ls := by simp [flat]
theorem flat_one (z : List Int) : flat [z] = frameOf z := by simp [flat]
theorem scans_flat (ls : List (List Int)) (hl : ∀ z ∈ ls, z.length ≤ 4096) : Scans (flat ls) ls (flat ls).length := by
  have := scans_none ls [] hl rfl
  simpa using this
theorem flat_inj {a b : List (List Int)} (ha : ∀ z ∈ a, z.length ≤ 4096) (hb : ∀ z ∈ b, z.length ≤ 4096) (h : flat a = flat b) : a = b :=
  ((scans_flat a ha).one (h ▸ scans_flat b hb)).1
theorem Scans.is {bs : List Int} {l : List (List Int)} {g : Nat} (h : Scans bs l g) : (∀ x ∈ bs, 0 ≤ x ∧ x ≤ 255) → bs.take g = flat l ∧ (∀ z ∈ l, z.length ≤ 4096) ∧ (∀ z ∈ l, ∀ x ∈ z, 0 ≤ x ∧ x ≤ 255) := by
  induction h with
  | stop _ => intro _; exact ⟨by simp [flat], by simp, by simp⟩
  | @more bs zs m l g h0 h1 ih =>
    intro hr
    obtain ⟨e1, e2, e3, e4⟩ := first_is hr h0
    obtain ⟨i1, i2, i3⟩ := ih (fun x hx => hr x (List.mem_of_mem_drop hx))
    refine ⟨by rw [List.take_add, e3, i1, flat_cons], fun z hz => ?_, fun z hz => ?_⟩
    · rcases List.mem_cons.1 hz with rfl | hz
      · exact e1
      · exact i2 z hz
    · rcases List.mem_cons.1 hz with rfl | hz
      · intro x hx
        have : x ∈ bs.take m := by rw [e3]; simp [frameOf, txt, hx]
        exact hr x (List.mem_of_mem_take this)
      · exact i3 z hz
theorem Scans.full {bs : List Int} {l : List (List Int)} {g : Nat} (hr : ∀ x ∈ bs, 0 ≤ x ∧ x ≤ 255) (h : Scans bs l g) (hg : g = bs.length) : bs = flat l := by
  rw [← (Scans.is h hr).1, hg, List.take_length]
theorem Scans.less {bs : List Int} {l : List (List Int)} {g : Nat} (h : Scans bs l g) (hg : g ≠ bs.length) {ls : List (List Int)} (hl : ∀ z ∈ ls, z.length ≤ 4096) : bs ≠ flat ls := fun e => by
  have h2 := scans_flat ls hl
  rw [← e] at h2
  exact hg (h.one h2).2
theorem Scans.own {bs : List Int} {l : List (List Int)} {g : Nat} (h : Scans bs l g) {ls : List (List Int)} (hl : ∀ z ∈ ls, z.length ≤ 4096) (e : bs = flat ls) : l = ls := by
  have h2 := scans_flat ls hl
  rw [← e] at h2
  exact (h.one h2).1

/-- what a file of these bytes tells as a promise -/
inductive GetIs (bs : List Int) : Option (Nat × Nat) → Prop
  | yes (t v : Nat) : t < 18446744073709551616 → v < 18446744073709551616 → bs = voteOf t v → GetIs bs (some (t, v))
  | no : (∀ t v, t < 18446744073709551616 → v < 18446744073709551616 → bs ≠ voteOf t v) → GetIs bs none

structure Shot where
  i : Nat
  t : Nat
  img : List Int
structure Shot.ok (s : Shot) : Prop where
  hi : s.i < 18446744073709551616
  ht : s.t < 18446744073709551616
  hl : s.img.length ≤ 262144
  hr : ∀ x ∈ s.img, 0 ≤ x ∧ x ≤ 255
def Shot.bytes (s : Shot) : List Int := shotOf s.i s.t s.img
/-- what a file of these bytes tells as a shot -/
inductive KeptIs (bs : List Int) : Option Shot → Prop
  | yes (s : Shot) : s.ok → bs = s.bytes → KeptIs bs (some s)
  | no : (∀ s : Shot, s.ok → bs ≠ s.bytes) → KeptIs bs none

theorem small2 {t v : Nat} (ht : t < 18446744073709551616) (hv : v < 18446744073709551616) : Small [t, v] := by
  intro n hn; simp at hn; rcases hn with rfl | rfl <;> assumption
theorem small3 {t v u : Nat} (ht : t < 18446744073709551616) (hv : v < 18446744073709551616) (hu : u < 18446744073709551616) : Small [t, v, u] := by
  intro n hn; simp at hn; rcases hn with rfl | rfl | rfl <;> assumption
theorem rec2_len (t v : Nat) : (recOf [t, v]).length ≤ 20 := by have := (recOf_len [t, v]).2; simpa using this
theorem rec3_len (t v u : Nat) : (recOf [t, v, u]).length ≤ 30 := by have := (recOf_len [t, v, u]).2; simpa using this
theorem vote_inj {t v t' v' : Nat} (ht : t < 18446744073709551616) (hv : v < 18446744073709551616) (ht' : t' < 18446744073709551616) (hv' : v' < 18446744073709551616) (h : voteOf t v = voteOf t' v') : t = t' ∧ v = v' := by
  have h1 := flat_inj (a := [recOf [t, v]]) (b := [recOf [t', v']]) (by intro z hz; simp at hz; subst hz; have := rec2_len t v; omega) (by intro z hz; simp at hz; subst hz; have := rec2_len t' v'; omega) (by rw [flat_one, flat_one]; exact h)
  simp only [List.cons.injEq, and_true] at h1
  have h2 := recOf_inj (small2 ht hv) (small2 ht' hv') rfl h1
  simpa using h2
theorem shot_small (s : Shot) : ∀ z ∈ recOf [s.i, s.t, s.img.length] :: parts s.img, z.length ≤ 4096 := by
  intro z hz
  rcases List.mem_cons.1 hz with rfl | hz
  · have := rec3_len s.i s.t s.img.length; omega
  · have := parts_small z hz; omega
theorem shot_range {s : Shot} (h : s.ok) : ∀ z ∈ recOf [s.i, s.t, s.img.length] :: parts s.img, ∀ x ∈ z, 0 ≤ x ∧ x ≤ 255 := by
  intro z hz
  rcases List.mem_cons.1 hz with rfl | hz
  · exact recOf_range _ (small3 h.hi h.ht (by have := h.hl; omega))
  · exact parts_range h.hr z hz
theorem shot_inj {s u : Shot} (hs : s.ok) (hu : u.ok) (h : s.bytes = u.bytes) : s = u := by
  have h1 := flat_inj (shot_small s) (shot_small u) h
  obtain ⟨h2, h3⟩ := List.cons.inj h1
  have h4 := recOf_inj (small3 (u := s.img.length) hs.hi hs.ht (by have := hs.hl; omega)) (small3 (u := u.img.length) hu.hi hu.ht (by have := hu.hl; omega)) rfl h2
  simp only [List.cons.injEq, and_true] at h4
  have h5 : s.img = u.img := by rw [← flat_parts s.img, ← flat_parts u.img, h3]
  cases s; cases u
  simp_all

theorem GetIs.one {bs : List Int} {a b : Option (Nat × Nat)} (h : GetIs bs a) (h' : GetIs bs b) : a = b := by
  cases h with
  | yes t v ht hv e =>
    cases h' with
    | yes t' v' ht' hv' e' =>
      obtain ⟨rfl, rfl⟩ := vote_inj ht hv ht' hv' (e.symm.trans e')
      rfl
    | no hn => exact absurd e (hn t v ht hv)
  | no hn =>
    cases h' with
    | yes t' v' ht' hv' e' => exact absurd e' (hn t' v' ht' hv')
    | no _ => rfl
theorem KeptIs.one {bs : List Int} {a b : Option Shot} (h : KeptIs bs a) (h' : KeptIs bs b) : a = b := by
  cases h with
  | yes s hs e =>
    cases h' with
    | yes s' hs' e' => rw [shot_inj hs hs' (e.symm.trans e')]
    | no hn => exact absurd e (hn s hs)
  | no hn =>
    cases h' with
    | yes s' hs' e' => exact absurd e' (hn s' hs')
    | no _ => rfl

/-- frames that are told, and what they say -/
theorem get_row {bs r : List Int} (hb : bs = flat [r]) {t v : Nat} (h : r = recOf [t, v]) (ht : t < 18446744073709551616) (hv : v < 18446744073709551616) : GetIs bs (some (t, v)) :=
  .yes t v ht hv (by rw [hb, h, flat_one]; rfl)
theorem get_not {bs : List Int} {l : List (List Int)} {g : Nat} (hs : Scans bs l g) (h : ∀ t v, t < 18446744073709551616 → v < 18446744073709551616 → g = bs.length → l ≠ [recOf [t, v]]) : GetIs bs none :=
  .no fun t v ht hv e => by
    have hl : ∀ z ∈ [recOf [t, v]], z.length ≤ 4096 := by intro z hz; simp at hz; subst hz; have := rec2_len t v; omega
    have e2 : bs = flat [recOf [t, v]] := by rw [e, flat_one]; rfl
    by_cases hg : g = bs.length
    · exact h t v ht hv hg (Scans.own hs hl e2)
    · exact Scans.less hs hg hl e2
theorem kept_rows {bs : List Int} {l : List (List Int)} (hb : bs = flat l) {i t : Nat} {img : List Int} (h : l = recOf [i, t, img.length] :: parts img) (hi : i < 18446744073709551616) (ht : t < 18446744073709551616) (hl : img.length ≤ 262144) (hr : ∀ x ∈ img, 0 ≤ x ∧ x ≤ 255) : KeptIs bs (some ⟨i, t, img⟩) :=
  .yes ⟨i, t, img⟩ ⟨hi, ht, hl, hr⟩ (by rw [hb, h]; rfl)
theorem kept_not {bs : List Int} {l : List (List Int)} {g : Nat} (hs : Scans bs l g) (h : ∀ s : Shot, s.ok → g = bs.length → l ≠ recOf [s.i, s.t, s.img.length] :: parts s.img) : KeptIs bs none :=
  .no fun s hok e => by
    by_cases hg : g = bs.length
    · exact h s hok hg (Scans.own hs (shot_small s) e)
    · exact Scans.less hs hg (shot_small s) e

end Go.Proofs.Ytjpbniajhkindaa.Vt
