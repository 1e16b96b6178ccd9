/- TokenTidy: two disks side by side; what a tidied file is worth. -/
import Derived.Test.YtjpbniajhkindaaBkB
namespace Go.Proofs.Ytjpbniajhkindaa
open Go.RowKit Go.Maps Go.Sort Dsk Tok

theorem sum_sub (g : Nat × Nat → Nat) : ∀ (l m : List (Nat × Nat)), l.Nodup → (∀ r ∈ l, r ∈ m) → (l.map g).sum ≤ (m.map g).sum
  | [], m, _, _ => by simp
  | r :: l, m, hn, hs => by
    have hp := List.perm_cons_erase (hs r (by simp))
    have h1 : (m.map g).sum = g r + ((m.erase r).map g).sum := by
      have := (hp.map g).sum_nat
      simpa using this
    have h2 := sum_sub g l (m.erase r) (List.nodup_cons.1 hn).2 fun x hx => (List.mem_erase_of_ne (fun e => (List.nodup_cons.1 hn).1 (by subst e; exact hx))).2 (hs x (by simp [hx]))
    simp
    omega
theorem sum_one : ∀ l : List (Nat × Nat), (l.map fun _ => 1).sum = l.length
  | [] => rfl
  | r :: l => by
    have := sum_one l
    simp only [List.map_cons, List.sum_cons, List.length_cons, this]
    omega
theorem img_len : ∀ rs : List (Nat × Nat), (img rs).length = (rs.map fun r => (Frame.frameOf (rb r)).length).sum
  | [] => rfl
  | r :: rs => by rw [img_cons, List.length_append, img_len rs, List.map_cons, List.sum_cons]
theorem tops_mem : ∀ (rs : List (Nat × Nat)) (f : Nat → Nat) (j : Nat), tops rs f j = f j ∨ (j, tops rs f j) ∈ rs
  | [], f, j => .inl rfl
  | (a, t) :: rs, f, j => by
    rw [tops_cons]
    rcases tops_mem rs (note f a t) j with h | h
    · rw [h]
      by_cases hj : j = a ∧ f a < t
      · obtain ⟨rfl, h1⟩ := hj
        right
        have : note f j t j = t := by simp [note, h1]
        rw [this]
        simp
      · left
        unfold note
        rw [if_neg hj]
    · right
      exact List.mem_cons_of_mem _ h
section
variable {f : Nat → Nat} {K L : List Nat} {rs : List (Nat × Nat)}
theorem tidied_sub (hK : JobsOf f K) (ht : tops rs (fun _ => 0) = f) : ∀ r ∈ tidied f K, r ∈ rs := fun r hr => by
  obtain ⟨j, hj, rfl⟩ := List.mem_map.1 hr
  have h0 := (hK.mem j).1 hj
  rcases tops_mem rs (fun _ => 0) j with h | h
  · rw [ht] at h; omega
  · rw [ht] at h; exact h
theorem tidied_nodup (hK : JobsOf f K) : (tidied f K).Nodup :=
  List.pairwise_map.2 (hK.rise.imp fun h e => by
    have := congrArg Prod.fst e
    dsimp only at this
    omega)
theorem tidied_small (hK : JobsOf f K) (ht : tops rs (fun _ => 0) = f) : (img (tidied f K)).length ≤ (img rs).length := by
  rw [img_len, img_len]
  exact sum_sub _ _ _ (tidied_nodup hK) (tidied_sub hK ht)
theorem tidied_len (hK : JobsOf f K) (ht : tops rs (fun _ => 0) = f) : (tidied f K).length ≤ rs.length := by
  rw [← sum_one, ← sum_one]
  exact sum_sub _ _ _ (tidied_nodup hK) (tidied_sub hK ht)
theorem jobs_len (hK : JobsOf f K) (hL : JobsOf f L) : K.length = L.length :=
  ((List.perm_ext_iff_of_nodup (jobs_nodup hK) (jobs_nodup hL)).2 fun j => (hK.mem j).trans (hL.mem j).symm).length_eq
end

section
variable {w w' : World} {B g k b n : Nat} {o : Tags} {rs : List (Nat × Nat)} {f : Nat → Nat}
theorem Dk.owns (h : Dk w B g o rs) : ∀ i, o i ≠ none → B ≤ i ∧ i < w.heap.size := by
  obtain ⟨M, N, h, _⟩ := h
  exact h.owns
theorem Tk.free (h : Tk w B g o rs k b f n) : o k = none ∧ o b = none ∧ k ≠ b := by
  obtain ⟨M, N, h⟩ := h
  exact ⟨h.ok, h.ob, h.kb⟩
theorem Tk.eff {p p' : Tags} {c : Nat} (h : Tk w B g o rs k b f n) (he : Eff p p' c w w') (hs : ∀ i, o i ≠ none ∨ i = k ∨ i = b → p i = none ∧ i ≠ c) : Tk w' B g o rs k b f n := by
  obtain ⟨M, N, h⟩ := h
  have hd : DiskAt w' B o g M N := by
    obtain ⟨x, D, hd⟩ := h.disk
    exact ⟨x, D, hd.same he.size fun i hi => he.block i (hd.own i hi).2 (hs i (.inl hi)).1 (hs i (.inl hi)).2⟩
  have hk := hs k (.inr (.inl rfl))
  have hb := hs b (.inr (.inr rfl))
  exact ⟨M, N, { h with disk := hd, hB := Nat.le_trans h.hB he.size, book := h.book.same (he.block k h.book.lt_size hk.1 hk.2) (he.block b h.book.tops.lt_size hb.1 hb.2) }⟩
/-- behind a crash the old book stands as it stood -/
theorem crash_tk2 (h : Tk w B g o rs k b f n) :
    Calls Try.prog 10 #[.pointer (some ⟨g, 0, none⟩), .slice none 0 0] w fun e w' => e = .returned (.tuple #[]) ∧ ∃ o', Tk w' B g o' rs k b f n ∧ Eff o o' b w w' := by
  have hc := crash_tk h.dk none 0 [] (stay_nil _ _) w.heap.size
  change Calls _ _ #[_, .slice none 0 0] _ _ at hc
  refine hc.mono ?_
  rintro e w' ⟨rfl, o', hd, he⟩
  obtain ⟨M0, N0, h⟩ := h
  have hkl := h.book.lt_size
  have hbl := h.book.tops.lt_size
  obtain ⟨M, N, h1, h2, h3, h4, h5, h6⟩ := hd
  refine ⟨rfl, o', ⟨M, N, h1, h2, h3, h4, h5, h6, h.book.same (he.block k hkl h.ok (by omega)) (he.block b hbl h.ob (by omega)), he.free k hkl h.ok, he.free b hbl h.ob, h.kb⟩, ⟨he.os, he.tape, he.output, he.size, fun i hi ho _ => he.block i hi ho (by omega), he.free⟩⟩
theorem read_tk (h : Tk w B g o rs k b f n) :
    Calls Try.prog 13 #[.pointer (some ⟨g, 0, none⟩), .string ⟨#[116, 111, 107, 101, 110]⟩] w fun e w' => ∃ a c th, e = .returned (.tuple #[.slice a (img rs).length c, .bool th]) ∧ Below w.heap.size w w' := by
  obtain ⟨M, N, h⟩ := h
  have hr := read_of (.pointer (some ⟨g, 0, none⟩)) (.string ⟨tokN.toArray⟩) w B o tokN (M.at tokN) (Lib.hid (file_any g B N o M tokN w h.disk (by decide))) (Lib.hid fun i e => (h.disk.owns i e).2) (h.liv.at_ tokN)
  rw [h.file.now.1] at hr
  change Calls _ _ #[_, .string ⟨#[116, 111, 107, 101, 110]⟩] _ _ at hr
  refine hr.mono ?_
  rintro e w' ⟨a, c, rfl, _, hb⟩
  exact ⟨a, c, _, rfl, hb⟩
end

/-- what a book and its disk lie in -/
def In (o : Tags) (k b i : Nat) : Prop := o i ≠ none ∨ i = k ∨ i = b
def Sep (o : Tags) (k b : Nat) (p : Tags) (q c : Nat) : Prop := ∀ i, In o k b i → ¬ In p q c i
section
variable {w w' : World} {o o' p : Tags} {k b q c : Nat}
theorem Sep.swap (h : Sep o k b p q c) : Sep p q c o k b := fun i h1 h2 => h i h2 h1
theorem Sep.out (h : Sep o k b p q c) : ∀ i, o i ≠ none ∨ i = k ∨ i = b → p i = none ∧ i ≠ c := fun i hi => by
  have h1 := h i hi
  refine ⟨?_, fun e => h1 (.inr (.inr e))⟩
  cases h2 : p i with
  | none => rfl
  | some x => exact absurd (Or.inl (by rw [h2]; simp)) h1
theorem Sep.eff (h : Sep o k b p q c) (he : Eff o o' b w w') (hl : ∀ i, In p q c i → i < w.heap.size) : Sep o' k b p q c := fun i h1 h2 => by
  have hi := hl i h2
  rcases h1 with h1 | h1
  · exact h i (.inl fun e => h1 (he.free i hi e)) h2
  · exact h i (.inr h1) h2
theorem Tk.in_lt {B g n : Nat} {rs : List (Nat × Nat)} {f : Nat → Nat} (h : Tk w B g o rs k b f n) : ∀ i, In o k b i → i < w.heap.size := fun i hi => by
  rcases hi with hi | rfl | rfl
  · exact (h.owns i hi).2
  · exact h.lt.2.1
  · exact h.lt.2.2.1
end

/-- a book and its disk -/
structure Bk where
  B : Nat
  g : Nat
  o : Tags
  rs : List (Nat × Nat)
  k : Nat
  b : Nat
  f : Nat → Nat
  n : Nat
structure Bk.At (w : World) (x : Bk) : Prop where
  tk : Tk w x.B x.g x.o x.rs x.k x.b x.f x.n
  len : x.rs.length ≤ x.n
  tops : Tok.tops x.rs (fun _ => 0) = x.f
/-- two of them, apart -/
structure Two (w0 w : World) (x y : Bk) : Prop where
  one : x.At w
  two : y.At w
  sep : Sep x.o x.k x.b y.o y.k y.b
  bel : Below w0.heap.size w0 w
  u1 : w0.heap.size ≤ x.b ∧ w0.heap.size ≤ x.B
  u2 : w0.heap.size ≤ y.b ∧ w0.heap.size ≤ y.B
section
variable {w0 w w' : World} {x y : Bk}
theorem Bk.At.below (h : x.At w) (hb : Below w.heap.size w w') : x.At w' := ⟨h.tk.below hb, h.len, h.tops⟩
theorem Two.swap (h : Two w0 w x y) : Two w0 w y x := ⟨h.two, h.one, h.sep.swap, h.bel, h.u2, h.u1⟩
theorem Two.below (h : Two w0 w x y) (hb : Below w.heap.size w w') : Two w0 w' x y := ⟨h.one.below hb, h.two.below hb, h.sep, h.bel.trans (hb.mono h.bel.size), h.u1, h.u2⟩
theorem Two.eff (h : Two w0 w x y) {o' : Tags} (he : Eff x.o o' x.b w w') {rs : List (Nat × Nat)} {f : Nat → Nat} {n : Nat} (ht : Tk w' x.B x.g o' rs x.k x.b f n) (hl : rs.length ≤ n) (htp : Tok.tops rs (fun _ => 0) = f) : Two w0 w' { x with o := o', rs := rs, f := f, n := n } y := by
  refine ⟨⟨ht, hl, htp⟩, ⟨h.two.tk.eff he h.sep.swap.out, h.two.len, h.two.tops⟩, h.sep.eff he h.two.tk.in_lt, h.bel.trans (he.below h.bel.size h.u1.1 fun i hi => ?_), h.u1, h.u2⟩
  cases h' : x.o i with
  | none => rfl
  | some z =>
    have h1 := (h.one.tk.owns i (by rw [h']; simp)).1
    have := h.u1.2
    omega
theorem two_accept (h : Two w0 w x y) (hn : x.n < 1000) {j t : Nat} (hj : j < top64) (ht : t < top64) :
    Calls Try.prog 8 #[.pointer (some ⟨x.k, 0, none⟩), .int .u64 (j : Int), .int .u64 (t : Int)] w fun e w' => e = .returned (.int .i64 (accE x.f j t)) ∧ ∃ o', Two w0 w' { x with o := o', rs := accR x.f x.rs j t, f := accF x.f j t, n := x.n + 1 } y := by
  have := h.one.len
  refine (accept_tk h.one.tk (by omega) (by omega) hj ht).mono ?_
  rintro e w' ⟨rfl, o', htk, he⟩
  have := accR_len x.f x.rs j t
  exact ⟨rfl, o', h.eff he htk (by omega) (accR_tops h.one.tops j t)⟩
theorem two_tidy (h : Two w0 w x y) (hn : x.n ≤ 1000) :
    Calls Try.prog 9 #[.pointer (some ⟨x.k, 0, none⟩)] w fun e w' => e = .returned (.int .i64 0) ∧ ∃ o' K, JobsOf x.f K ∧ Two w0 w' { x with o := o', rs := tidied x.f K } y := by
  refine (tidy_tk h.one.tk hn).mono ?_
  rintro e w' ⟨rfl, o', K, hK, htk, he⟩
  exact ⟨rfl, o', K, hK, h.eff he htk (Nat.le_trans (tidied_len hK h.one.tops) h.one.len) (tidied_tops hK)⟩
theorem two_crash (h : Two w0 w x y) :
    Calls Try.prog 10 #[.pointer (some ⟨x.g, 0, none⟩), .slice none 0 0] w fun e w' => e = .returned (.tuple #[]) ∧ ∃ o', Two w0 w' { x with o := o' } y := by
  refine (crash_tk2 h.one.tk).mono ?_
  rintro e w' ⟨rfl, o', htk, he⟩
  exact ⟨rfl, o', h.eff he htk h.one.len h.one.tops⟩
theorem two_open (h : Two w0 w x y) (hn : x.n ≤ 1000) :
    Calls Try.prog 7 #[.pointer (some ⟨x.g, 0, none⟩)] w fun e w' => ∃ k' b', e = .returned (.tuple #[.pointer (some ⟨k', 0, none⟩), .int .i64 0]) ∧ Two w0 w' x y ∧ Two w0 w' { x with k := k', b := b', n := x.rs.length } y := by
  have hl := h.one.len
  refine (open_tk h.one.tk.dk (by omega)).mono ?_
  rintro e w' ⟨k', b', rfl, htk, hb, hk', hb'⟩
  have h2 := h.below hb
  rw [h.one.tops] at htk
  refine ⟨k', b', rfl, h2, ⟨htk, Nat.le_refl _, h.one.tops⟩, h2.two, fun i h1 h3 => ?_, h2.bel, ⟨Nat.le_trans h.bel.size hb', h.u1.2⟩, h.u2⟩
  rcases h1 with h1 | h1
  · exact h.sep i (.inl h1) h3
  · have := h.two.tk.in_lt i h3
    dsimp only at h1
    omega
theorem two_jobs (h : x.At w) (hn : x.n ≤ 1000) :
    Calls Try.prog 11 #[.pointer (some ⟨x.k, 0, none⟩)] w fun e w' => ∃ a c K, e = .returned (.slice a (List.length K) c) ∧ JobsOf x.f K ∧ Below w.heap.size w w' := by
  refine (jobs_tk h.tk hn).mono ?_
  rintro e w' ⟨v, K, rfl, hK, hrow, hb⟩
  obtain ⟨a, c, rfl, _⟩ := slice_shape hrow
  exact ⟨a, c, K, rfl, hK, hb⟩
theorem two_top (h : x.At w) {j : Nat} (hj : j < top64) :
    Calls Try.prog 12 #[.pointer (some ⟨x.k, 0, none⟩), .int .u64 (j : Int)] w fun e w' => e = .returned (.int .u64 (x.f j : Int)) ∧ w' = w := top_tk h.tk hj
end

end Go.Proofs.Ytjpbniajhkindaa
