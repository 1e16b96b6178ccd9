/- Plain mathematics of layer 12: the greatest token of each job. No program is spoken of here. -/
import Derived.Test.YtjpbniajhkindaaVtM
namespace Go.Proofs.Ytjpbniajhkindaa.Tok

abbrev top64 : Nat := 18446744073709551616
/-- one more record -/
def note (f : Nat → Nat) (j t : Nat) : Nat → Nat := fun i => if i = j ∧ f j < t then t else f i
theorem note_self (f : Nat → Nat) (j t : Nat) : note f j t j = max (f j) t := by
  unfold note
  split <;> omega
theorem note_other (f : Nat → Nat) {i j : Nat} (t : Nat) (h : i ≠ j) : note f j t i = f i := by simp [note, h]
theorem note_old (f : Nat → Nat) {j t : Nat} (h : ¬ f j < t) : note f j t = f := by
  funext i
  simp [note, h]
theorem note_new (f : Nat → Nat) {j t : Nat} (h : f j < t) : note f j t = fun i => if i = j then t else f i := by
  funext i
  simp [note, h]
theorem note_lt {f : Nat → Nat} (hf : ∀ i, f i < top64) {j t : Nat} (ht : t < top64) : ∀ i, note f j t i < top64 := fun i => by
  unfold note
  split
  · exact ht
  · exact hf i
theorem le_note (f : Nat → Nat) (j t i : Nat) : f i ≤ note f j t i := by
  by_cases h : i = j
  · subst h; rw [note_self]; omega
  · rw [note_other _ _ h]; exact Nat.le_refl _

/-- what the records tell -/
def tops (rs : List (Nat × Nat)) (f : Nat → Nat) : Nat → Nat := rs.foldl (fun f r => note f r.1 r.2) f
theorem tops_snoc (rs : List (Nat × Nat)) (f : Nat → Nat) (j t : Nat) : tops (rs ++ [(j, t)]) f = note (tops rs f) j t := by simp [tops]
theorem tops_cons (rs : List (Nat × Nat)) (f : Nat → Nat) (j t : Nat) : tops ((j, t) :: rs) f = tops rs (note f j t) := rfl
theorem tops_lt : ∀ (rs : List (Nat × Nat)) (f : Nat → Nat), (∀ i, f i < top64) → (∀ r ∈ rs, r.2 < top64) → ∀ i, tops rs f i < top64
  | [], _, h, _ => h
  | (j, t) :: rs, f, h, hr => tops_lt rs _ (note_lt h (hr (j, t) (by simp))) fun r hm => hr r (by simp [hm])
/-- each job once, with its token: these are the tops -/
theorem tops_at : ∀ (rs : List (Nat × Nat)) (f : Nat → Nat), (rs.map (·.1)).Nodup → (∀ r ∈ rs, f r.1 ≤ r.2) → ∀ i, tops rs f i = ((rs.find? fun r => r.1 == i).map (·.2)).getD (f i)
  | [], f, _, _, i => rfl
  | (j, t) :: rs, f, hn, hf, i => by
    have hn' := List.nodup_cons.1 (show ((j, t).1 :: rs.map (·.1)).Nodup from hn)
    rw [tops_cons, tops_at rs _ hn'.2 (fun r hr => ?_)]
    · by_cases h : j = i
      · subst h
        have hnf : rs.find? (fun r => r.1 == j) = none := by
          rw [List.find?_eq_none]
          intro r hr
          have : r.1 ≠ j := fun e => hn'.1 (List.mem_map.2 ⟨r, hr, e⟩)
          simpa using this
        rw [hnf, List.find?_cons_of_pos (by simp)]
        have := hf (j, t) (by simp)
        simp only [Option.map_none, Option.getD_none, Option.map_some, Option.getD_some, note_self]
        simp only at this
        omega
      · rw [List.find?_cons_of_neg (by simpa using h), note_other _ _ (fun e => h e.symm)]
    · have hne : r.1 ≠ j := fun e => hn'.1 (List.mem_map.2 ⟨r, hr, e⟩)
      rw [note_other _ _ hne]
      exact hf r (by simp [hr])

/-- a record's bytes; the file's -/
def rb (r : Nat × Nat) : List Int := Vt.recOf [r.1, r.2]
def img (rs : List (Nat × Nat)) : List Int := Frame.flat (rs.map rb)
def Fit (rs : List (Nat × Nat)) : Prop := ∀ r ∈ rs, r.1 < top64 ∧ r.2 < top64
theorem img_snoc (rs : List (Nat × Nat)) (r : Nat × Nat) : img (rs ++ [r]) = img rs ++ Frame.frameOf (rb r) := by simp [img, Frame.flat_snoc]
theorem img_append (a b : List (Nat × Nat)) : img (a ++ b) = img a ++ img b := by simp [img, Frame.flat]
theorem img_cons (r : Nat × Nat) (rs : List (Nat × Nat)) : img (r :: rs) = Frame.frameOf (rb r) ++ img rs := by simp [img, Frame.flat]
theorem img_split (rs : List (Nat × Nat)) (i : Nat) : img rs = img (rs.take i) ++ img (rs.drop i) := by rw [← img_append, List.take_append_drop]
theorem img_nil : img [] = [] := rfl
theorem rb_len (r : Nat × Nat) : (rb r).length ≤ 20 := by
  exact Vt.rec2_len r.1 r.2
theorem rb_range {r : Nat × Nat} (h : r.1 < top64 ∧ r.2 < top64) : ∀ x ∈ rb r, 0 ≤ x ∧ x ≤ 255 := Vt.recOf_range _ (Vt.small2 h.1 h.2)
theorem frame_le (r : Nat × Nat) : (Frame.frameOf (rb r)).length ≤ 40 := by
  have h1 := Frame.frame_len (rb r)
  have h2 := Num.put_len (rb r).length
  have h3 := rb_len r
  omega
theorem img_le : ∀ rs : List (Nat × Nat), (img rs).length ≤ 40 * rs.length
  | [] => by simp [img, Frame.flat]
  | r :: rs => by
    have h1 := frame_le r
    have h2 := img_le rs
    have e : img (r :: rs) = Frame.frameOf (rb r) ++ img rs := by simp [img, Frame.flat]
    rw [e, List.length_append, List.length_cons]
    omega
theorem img_range {rs : List (Nat × Nat)} (h : Fit rs) : ∀ x ∈ img rs, 0 ≤ x ∧ x ≤ 255 := by
  refine Frame.flat_range (fun z hz => ?_) (fun z hz => ?_)
  · obtain ⟨r, _, rfl⟩ := List.mem_map.1 hz
    have := rb_len r
    omega
  · obtain ⟨r, hr, rfl⟩ := List.mem_map.1 hz
    exact rb_range (h r hr)

end Go.Proofs.Ytjpbniajhkindaa.Tok
