/- Mathematics of a crash of a log: its last segment is cut; what is read of it, and what Open leaves. No program is spoken of here. -/
import Derived.Test.YtmfemedcjgeheaaGreatDoorPutD
import Derived.Test.YtmfemedcjgeheaaGreatDoorOpA
namespace Go.Proofs.YtmfemedcjgeheaaGreatDoor.Wl
open Dsk

/-- how many whole frames stand within m bytes -/
def fit : List Ent → Nat → Nat
  | [], _ => 0
  | e :: l, m => if (frm e).length ≤ m then fit l (m - (frm e).length) + 1 else 0
theorem fit_le : ∀ (l : List Ent) (m : Nat), fit l m ≤ l.length
  | [], _ => Nat.le_refl _
  | e :: l, m => by
    unfold fit
    split
    · have := fit_le l (m - (frm e).length); simp; omega
    · simp
theorem fit_has : ∀ (l : List Ent) (m s : Nat), s ≤ l.length → (flatE (l.take s)).length ≤ m → s ≤ fit l m
  | [], m, s, hs, _ => by simp at hs; omega
  | e :: l, m, 0, _, _ => Nat.zero_le _
  | e :: l, m, s + 1, hs, h => by
    rw [List.take_succ_cons, flatE_cons, List.length_append] at h
    unfold fit
    rw [if_pos (by omega)]
    have := fit_has l (m - (frm e).length) s (by simpa using hs) (by omega)
    omega
/-- the bytes of a cut file: whole frames, and a rest of which nothing is told -/
theorem fit_split : ∀ (l : List Ent) (m : Nat), (∀ e ∈ l, e.ok) → ∃ rest, (flatE l).take m = flatE (l.take (fit l m)) ++ rest ∧ (rest = [] ∨ Frame.firstOf rest = none)
  | [], m, _ => ⟨[], by simp [flatE, fit], .inl rfl⟩
  | e :: l, m, h => by
    by_cases hm : (frm e).length ≤ m
    · obtain ⟨rest, h1, h2⟩ := fit_split l (m - (frm e).length) (fun x hx => h x (by simp [hx]))
      refine ⟨rest, ?_, h2⟩
      have hf : fit (e :: l) m = fit l (m - (frm e).length) + 1 := by rw [fit, if_pos hm]
      rw [hf, List.take_succ_cons, flatE_cons, flatE_cons, List.take_append, h1, List.take_of_length_le hm, List.append_assoc]
    · have hf : fit (e :: l) m = 0 := by rw [fit, if_neg hm]
      have he := h e (by simp)
      refine ⟨(frm e).take m, ?_, .inr ?_⟩
      · rw [hf, List.take_zero, flatE_nil, List.nil_append, flatE_cons, List.take_append_of_le_length (by omega)]
      · exact Frame.first_cut (recOf e) (by have := (rec_len he).2; omega) m (by show m < (frm e).length; omega) (frm_range he)

theorem walk_cut {l : List Ent} {ents E : List Ent} {m : Nat} (hl : ∀ e ∈ l, e.ok) (hc : chain ents (l.take (fit l m)) = some E) :
    ∃ b, walk (((flatE l).take m).length + 1) ((flatE l).take m) 0 [] ents = ((flatE (l.take (fit l m))).length, l.take (fit l m), E, b) := by
  obtain ⟨rest, h1, h2⟩ := fit_split l m hl
  have hok : ∀ e ∈ l.take (fit l m), e.ok := fun e he => hl e (List.mem_of_mem_take he)
  obtain ⟨r, hr⟩ : ∃ r, r = l.take (fit l m) := ⟨_, rfl⟩
  rw [← hr] at h1 hc hok ⊢
  rw [h1]
  have hlen := flatE_len hok
  obtain ⟨f, hf⟩ : ∃ f, (flatE r ++ rest).length + 1 = (f + 1) + r.length := ⟨(flatE r ++ rest).length - r.length, by rw [List.length_append]; omega⟩
  have hw := walk_flat r (f + 1) [] rest [] ents hok hc
  simp only [List.nil_append, List.length_nil, Nat.zero_add] at hw
  rw [hf, hw]
  rcases h2 with rfl | h2
  · rw [List.append_nil]
    exact ⟨true, walk_end _ _ (Nat.le_refl _)⟩
  · by_cases hz : rest = []
    · subst hz
      rw [List.append_nil]
      exact ⟨true, walk_end _ _ (Nat.le_refl _)⟩
    · have hpos : 0 < rest.length := by
        cases rest with
        | nil => exact absurd rfl hz
        | cons a t => simp
      exact ⟨false, walk_none _ _ (by rw [List.length_append]; omega) (by rw [List.drop_left]; exact step1_none h2)⟩

theorem readGo_snoc : ∀ (L : List (Nat × List Ent)) (y : Nat × List Int) (E0 : List Ent) {E : List Ent}, (∀ x ∈ L, x.2 ≠ []) → (∀ x ∈ L, ∀ e ∈ x.2, e.ok) → chain E0 (L.map Prod.snd).flatten = some E →
    readGo ((L.map fun x => (x.1, flatE x.2)) ++ [y]) E0 = (L.map sgOf ++ (readGo [y] E).1, (readGo [y] E).2)
  | [], y, E0, E, _, _, h => by simp only [List.map_nil, List.flatten_nil, chain_nil, Option.some.injEq] at h; subst h; rfl
  | x :: L, y, E0, E, hne, hok, h => by
    rw [List.map_cons, List.flatten_cons] at h
    obtain ⟨E1, h1, h2⟩ := chain_split _ _ _ h
    have hw := walk_whole (hok x (by simp)) h1
    rw [List.map_cons, List.cons_append, readGo_more (x := (x.1, flatE x.2)) _ hw (hne x (by simp)), readGo_snoc L y E1 (fun y hy => hne y (by simp [hy])) (fun y hy => hok y (by simp [hy])) h2]
    rfl
theorem readGo_one (k : Nat) {l ents E : List Ent} {m : Nat} (hl : ∀ e ∈ l, e.ok) (hc : chain ents (l.take (fit l m)) = some E) :
    readGo [(k, (flatE l).take m)] ents = ([⟨k, (flatE l).take m, (flatE (l.take (fit l m))).length, l.take (fit l m)⟩], E) := by
  obtain ⟨b, hw⟩ := walk_cut hl hc
  by_cases hb : b = true ∧ l.take (fit l m) ≠ []
  · obtain ⟨rfl, hne⟩ := hb
    rw [readGo_more (x := (k, (flatE l).take m)) [] hw hne]
    rfl
  · rw [readGo_stop (x := (k, (flatE l).take m)) [] hw (by
      cases b with
      | false => exact .inl rfl
      | true => exact .inr (by
          rcases Classical.em (l.take (fit l m) = []) with h | h
          · exact h
          · exact absurd ⟨rfl, h⟩ hb))]
    rfl
end Go.Proofs.YtmfemedcjgeheaaGreatDoor.Wl
