/- What a search knows: who was reached, who is to be gone through. -/
import Derived.Test.YthbaldjdfehhlaaDeps13
import Derived.Test.YthbaldjdfehhlaaRefReach13
namespace Go.Proofs.Ythbaldjdfehhlaa
open Gr

theorem dep_edge {l : List NodeV} {x d : Int} : d ∈ depList l x ↔ Gr.Edge (rowOf l) x d := by rw [mem_depList, edge_iff]

/-- S was reached, q is to be gone through -/
structure Srch (l : List NodeV) (f t : Int) (S q : List Int) : Prop where
  way : ∀ x ∈ S, Path (rowOf l) f x
  sub : ∀ x ∈ S, x ∈ ids (rowOf l)
  nodup : S.Nodup
  qin : ∀ x ∈ q, x = f ∨ x ∈ S
  done : ∀ x, x = f ∨ x ∈ S → x ∉ q → ∀ d, Gr.Edge (rowOf l) x d → d ≠ t ∧ (d ∈ ids (rowOf l) → d ∈ S)
/-- of the one in front some Deps have been told -/
structure Part (l : List NodeV) (f t : Int) (S q : List Int) (x : Int) (pre : List Int) : Prop where
  s : Srch l f t S (x :: q)
  told : ∀ d ∈ pre, d ≠ t ∧ (d ∈ ids (rowOf l) → d ∈ S)
section
variable {l : List NodeV} {f t x d : Int} {S q pre : List Int}
theorem Srch.start (l : List NodeV) (f t : Int) : Srch l f t [] [f] :=
  ⟨(fun x hx => by cases hx), (fun x hx => by cases hx), List.nodup_nil, (fun x hx => by simp at hx; exact .inl hx), fun x hx hn => by
    rcases hx with rfl | hx
    · exact absurd (by simp) hn
    · cases hx⟩
theorem Srch.len (h : Srch l f t S q) : S.length ≤ l.length := by
  have := nodup_le h.nodup h.sub
  simpa [rowOf_ids] using this
theorem Srch.part (h : Srch l f t S (x :: q)) : Part l f t S q x [] := ⟨h, fun d hd => by cases hd⟩
theorem Part.from_ (h : Part l f t S q x pre) (hd : d ∈ depList l x) : Path (rowOf l) f d := by
  have e := dep_edge.1 hd
  rcases h.s.qin x (by simp) with rfl | hx
  · exact .one e
  · exact (h.s.way x hx).snoc e
theorem Part.old (h : Part l f t S q x pre) (hne : d ≠ t) (hin : d ∈ ids (rowOf l) → d ∈ S) : Part l f t S q x (pre ++ [d]) :=
  ⟨h.s, fun y hy => by
    rcases List.mem_append.1 hy with hy | hy
    · exact h.told y hy
    · simp at hy; subst hy; exact ⟨hne, hin⟩⟩
theorem Part.add (h : Part l f t S q x pre) (hd : d ∈ depList l x) (hne : d ≠ t) (hi : d ∈ ids (rowOf l)) (hn : d ∉ S) : Part l f t (S ++ [d]) (q ++ [d]) x (pre ++ [d]) := by
  have hS : ∀ y ∈ S ++ [d], y ∈ S ∨ y = d := fun y hy => by simpa using hy
  refine ⟨⟨fun y hy => ?_, fun y hy => ?_, List.nodup_append.2 ⟨h.s.nodup, by simp, fun a ha b hb => by simp at hb; subst hb; exact fun e => hn (e ▸ ha)⟩, fun y hy => ?_, fun y hy hq e he => ?_⟩, fun y hy => ?_⟩
  · rcases hS y hy with hy | rfl
    · exact h.s.way y hy
    · exact h.from_ hd
  · rcases hS y hy with hy | rfl
    · exact h.s.sub y hy
    · exact hi
  · rcases List.mem_cons.1 hy with rfl | hy
    · exact (h.s.qin y (by simp)).imp id fun h => List.mem_append.2 (.inl h)
    · rcases List.mem_append.1 hy with hy | hy
      · exact (h.s.qin y (by simp [hy])).imp id fun h => List.mem_append.2 (.inl h)
      · simp at hy; subst hy; exact .inr (by simp)
  · have hq1 : y ∉ x :: q := fun h => hq (by
      rcases List.mem_cons.1 h with rfl | h
      · simp
      · simp [h])
    have hq2 : y ≠ d := fun e => hq (by simp [e])
    have hy2 : y = f ∨ y ∈ S := hy.imp id fun h => (hS y h).resolve_right hq2
    obtain ⟨a, b⟩ := h.s.done y hy2 hq1 e he
    exact ⟨a, fun h => List.mem_append.2 (.inl (b h))⟩
  · rcases List.mem_append.1 hy with hy | hy
    · obtain ⟨a, b⟩ := h.told y hy
      exact ⟨a, fun h => List.mem_append.2 (.inl (b h))⟩
    · simp at hy; subst hy; exact ⟨hne, fun _ => by simp⟩
theorem Part.next (h : Part l f t S q x (depList l x)) : Srch l f t S q := by
  refine ⟨h.s.way, h.s.sub, h.s.nodup, fun y hy => h.s.qin y (by simp [hy]), fun y hy hq e he => ?_⟩
  by_cases hyx : y = x
  · subst hyx
    exact h.told e (dep_edge.2 he)
  · exact h.s.done y hy (fun h => (List.mem_cons.1 h).elim hyx hq) e he
/-- all have been gone through: who was not found is not reached -/
theorem Srch.none (h : Srch l f t S []) : ¬ Path (rowOf l) f t := fun p => by
  refine (p.closed (S := fun d => d ≠ t ∧ (d ∈ ids (rowOf l) → d ∈ S)) (fun c e => h.done f (.inl rfl) (by simp) c e) (fun c d hc e => h.done c (.inr (hc.2 e.head)) (by simp) d e)).1 rfl
end

end Go.Proofs.Ythbaldjdfehhlaa
