/- The marks that ranges over functions leave among a function's deferred calls: many of them, out of a loop. -/
import Derived.Test.YthbaldjdfehhlaaZs13
namespace Go.Proofs.Ythbaldjdfehhlaa
open Go.RowKit Gr Go.Sort Go.Maps

/-- ds are marks; their blocks lie from lo to below hi, and no call lies in them -/
def Marks (lo hi : Nat) (w : World) : List Deferred → Prop
  | [] => True
  | d :: ds => ∃ D, d = { target := .collected D, args := #[] } ∧ lo ≤ D ∧ D < hi ∧ w.heap[D]? = some (.deferred (some [])) ∧ (∀ e ∈ ds, e.target ≠ .collected D) ∧ Marks lo hi w ds
theorem Marks.keep {lo hi hi' : Nat} {w w' : World} (hh : hi ≤ hi') : ∀ {ds : List Deferred}, Marks lo hi w ds → (∀ D, lo ≤ D → D < hi → w.heap[D]? = some (.deferred (some [])) → (∃ d ∈ ds, d.target = .collected D) → w'.heap[D]? = w.heap[D]?) → Marks lo hi' w' ds
  | [], _, _ => trivial
  | d :: ds, ⟨D, e, h1, h2, h3, h4, h5⟩, hk => ⟨D, e, h1, Nat.lt_of_lt_of_le h2 hh, (hk D h1 h2 h3 ⟨d, by simp, by rw [e]⟩).trans h3, h4, h5.keep hh fun D' a b c ⟨x, hx, hx2⟩ => hk D' a b c ⟨x, by simp [hx], hx2⟩⟩
theorem Marks.in_ {lo hi : Nat} {w : World} : ∀ {ds : List Deferred}, Marks lo hi w ds → ∀ d ∈ ds, ∃ D, d.target = .collected D ∧ D < hi
  | [], _, _, h => by cases h
  | d :: ds, ⟨D, e, h1, h2, h3, h4, h5⟩, x, hx => by
    rcases List.mem_cons.1 hx with rfl | hx
    · exact ⟨D, by rw [e], h2⟩
    · exact h5.in_ x hx
theorem Marks.push {lo hi D : Nat} {w : World} {ds : List Deferred} (h : Marks lo hi w ds) (hl : lo ≤ hi) (hD : hi ≤ D) (hd : w.heap[D]? = some (.deferred (some []))) : Marks lo w.heap.size w ({ target := .collected D, args := #[] } :: ds) :=
  ⟨D, rfl, Nat.le_trans hl hD, (Array.getElem?_eq_some_iff.1 hd).1, hd, fun e he h2 => by
    obtain ⟨D', h3, h4⟩ := h.in_ e he
    rw [h3] at h2
    cases h2
    omega, h.keep (Nat.le_trans hD (Nat.le_of_lt (Array.getElem?_eq_some_iff.1 hd).1)) fun _ _ _ _ _ => rfl⟩

/-- what shutting marks' blocks keeps -/
structure Shut (lo : Nat) (w w' : World) : Prop where
  bel : Below lo w w'
  cells : ∀ (k : Nat) (cs : Array Value) (ty : TypeId) (fr : Nat × Nat), w.heap[k]? = some (Obj.cells cs ty fr) → w'.heap[k]? = some (Obj.cells cs ty fr)
theorem leaves_marks {F : Fence} {n : Nat} {P : Program} {fn : Func} {tmps : Array Value} {R : Ending → World → Prop} {lo : Nat} : ∀ {ds : List Deferred} {hi : Nat} {w : World}, Marks lo hi w ds → lo ≤ w.heap.size →
    (∀ w', Shut lo w w' → LeavesIn F n P fn tmps R [] .returning w') → LeavesInM F n P fn tmps R ds .returning w
  | [], _, w, _, _, k => k w ⟨Below.refl _ _, fun _ _ _ _ h => h⟩
  | d :: ds, hi, w, ⟨D, e, h1, h2, h3, h4, h5⟩, hl, k => by
    refine ⟨by simp, .inl ⟨D, _, by rw [e], run_takeDeferred h3, ?_⟩⟩
    have hne : ∀ k', k' ≠ D → (w.putObj D (.deferred none)).heap[k']? = w.heap[k']? := fun k' h => World.putObj_heap_other h
    refine leaves_marks (h5.keep (w' := w.putObj D (.deferred none)) (Nat.le_refl hi) fun D' _ _ _ ⟨x, hx, hx2⟩ => hne D' fun e2 => h4 x hx (by rw [hx2, e2])) (by simpa using hl) fun w' hs => k w' ⟨?_, fun k' cs ty fr hk => hs.cells k' cs ty fr ((hne k' fun e2 => ?_).trans hk)⟩
    · exact ((Below.refl lo w).grown (grownBy_putObj' w D (.deferred none)) hl fun r hr => by cases hr; exact h1).trans hs.bel
    · rw [e2, h3] at hk; cases hk

/-- the memory that Reach starts its loop in -/
theorem zs_start {w w1 : World} {l : List NodeV} {t f : Int} {b1 : Nat} (hb : Below (w.heap.size + 2) ((w.alloc (.cells #[.int .u64 t] 23)).alloc (.cells #[.bool false] 4)) w1) (hs : SetAt w1 b1 (idSet l)) :
    ZS w l t w1.heap.size b1 (w1.heap.size + 1 + 1) (w1.heap.size + 1) [] (w1.heap.size + 1 + 1 + 1 + 1) (.slice (some ⟨w1.heap.size + 1 + 1 + 1, 0, none⟩) 1 1) [f]
      (((((w1.alloc (.cells #[.map (some b1)] 45)).alloc (.map #[] 0)).alloc (.cells #[.map (some (w1.heap.size + 1))] 45)).alloc (.cells #[.int .u64 f] 23)).alloc (.cells #[.slice (some ⟨w1.heap.size + 1 + 1 + 1, 0, none⟩) 1 1] 26)) := by
  have hb0 : Below w.heap.size w ((w.alloc (.cells #[.int .u64 t] 23)).alloc (.cells #[.bool false] 4)) := ((Below.refl _ _).alloc (Nat.le_refl _) _).alloc (by simp) _
  have hz := hb.size
  simp only [World.size_alloc] at hz
  have hlt := hs.lt
  have t0 : Boxed w1 w.heap.size 23 (.int .u64 t) := (hb.block _ (by omega)).trans ((Boxed.new w _ _).alloc _)
  have r0 : Boxed w1 (w.heap.size + 1) 4 (.bool false) := by
    refine (hb.block _ (by omega)).trans ?_
    have := Boxed.new (w.alloc (.cells #[.int .u64 t] 23)) 4 (.bool false)
    rwa [World.size_alloc] at this
  have hw1 : Below w.heap.size w w1 := hb0.trans (hb.mono (by omega))
  obtain ⟨wA, hA⟩ : ∃ x, x = w1.alloc (.cells #[.map (some b1)] 45) := ⟨_, rfl⟩
  have zA : wA.heap.size = w1.heap.size + 1 := by rw [hA]; simp
  have bA : Below w1.heap.size w1 wA := by rw [hA]; exact (Below.refl _ _).alloc (Nat.le_refl _) _
  have nA : Boxed wA w1.heap.size 45 (.map (some b1)) := by rw [hA]; exact Boxed.new _ _ _
  rw [← hA]
  obtain ⟨wB, hB⟩ : ∃ x, x = wA.alloc (.map #[] 0) := ⟨_, rfl⟩
  have zB : wB.heap.size = w1.heap.size + 1 + 1 := by rw [hB]; simp [zA]
  have bB : Below wA.heap.size wA wB := by rw [hB]; exact (Below.refl _ _).alloc (Nat.le_refl _) _
  have sB : SetAt wB (w1.heap.size + 1) [] := by rw [hB, ← zA]; exact SetAt.made _
  rw [← hB]
  obtain ⟨wC, hC⟩ : ∃ x, x = wB.alloc (.cells #[.map (some (w1.heap.size + 1))] 45) := ⟨_, rfl⟩
  have zC : wC.heap.size = w1.heap.size + 1 + 1 + 1 := by rw [hC]; simp [zB]
  have bC : Below wB.heap.size wB wC := by rw [hC]; exact (Below.refl _ _).alloc (Nat.le_refl _) _
  have nC : Boxed wC (w1.heap.size + 1 + 1) 45 (.map (some (w1.heap.size + 1))) := by rw [hC, ← zB]; exact Boxed.new _ _ _
  rw [← hC]
  obtain ⟨wD, hD⟩ : ∃ x, x = wC.alloc (.cells #[.int .u64 f] 23) := ⟨_, rfl⟩
  have zD : wD.heap.size = w1.heap.size + 1 + 1 + 1 + 1 := by rw [hD]; simp [zC]
  have bD : Below wC.heap.size wC wD := by rw [hD]; exact (Below.refl _ _).alloc (Nat.le_refl _) _
  have rD : MidU (w.heap.size + 1) (.slice (some ⟨w1.heap.size + 1 + 1 + 1, 0, none⟩) 1 1) [f] wD := by rw [hD, ← zC]; exact MidU.one _ _ (by omega)
  rw [← hD]
  obtain ⟨wE, hE⟩ : ∃ x, x = wD.alloc (.cells #[.slice (some ⟨w1.heap.size + 1 + 1 + 1, 0, none⟩) 1 1] 26) := ⟨_, rfl⟩
  have bE : Below wD.heap.size wD wE := by rw [hE]; exact (Below.refl _ _).alloc (Nat.le_refl _) _
  have nE : Boxed wE (w1.heap.size + 1 + 1 + 1 + 1) 26 (.slice (some ⟨w1.heap.size + 1 + 1 + 1, 0, none⟩) 1 1) := by rw [hE, ← zD]; exact Boxed.new _ _ _
  rw [← hE]
  have bDE := bD.trans (bE.mono (by omega))
  have bCE : Below wB.heap.size wB wE := bC.trans (bDE.mono (by omega))
  have bBE : Below wA.heap.size wA wE := bB.trans (bCE.mono (by omega))
  have bAE : Below w1.heap.size w1 wE := bA.trans (bBE.mono (by omega))
  have put : ∀ {k ty v} {W : World}, Below W.heap.size W wE → Boxed W k ty v → Boxed wE k ty v := fun h hb => (h.block _ hb.lt).trans hb
  exact ⟨hw1.trans (bAE.mono (by omega)), put bAE t0, put bAE r0, put bBE nA, hs.below bAE, put bDE nC, sB.below bCE, nE, rD.below bE, by omega, by omega, by omega⟩

end Go.Proofs.Ythbaldjdfehhlaa
