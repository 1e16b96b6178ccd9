/- A range over a function whose variable is boxed anew in each round. -/
import Derived.Test.YthbaldjdfehhlaaTold
namespace Go.Proofs.Ythbaldjdfehhlaa
open Go.RowKit
variable {n : Nat} {P : Program}

/-- a range over a function whose variable is boxed anew in each round ('o x': the block): the round's frame knows its number -/
theorem range_told_box {α : Type} {g : Operand} {ps : Array Tmp} {assign body : Code} {Q : Exit → Act → World → Prop} {a : Act} {w : World} {gf : Nat} {lb : Array Value}
    (h1 : 1 ≤ n) (hg : a.eval g = .func (.func gf) #[] lb) (eg : ∀ args w, (callFunc gf args).run P w = .ok (.enter gf args) w)
    {encs : α → Array Value} {Kp : World → World → Prop} {T : List α → World → Prop} {S : List α → Prop} {N : Nat} {w0 : World} (hseq : Tells (n - 1) P gf lb encs Kp T S N w0)
    (hKt : ∀ {A B C : World}, Kp A B → Kp B C → Kp A C) (hKb : ∀ (W : World) (l : Nat) (R : Loop) (o' : Obj), w.heap.size ≤ l → W.heap[l]? = some (.loop R) → Kp W (W.putObj l o'))
    (o : α → Obj) (hKa : ∀ (W : World) (ob : Obj), w.heap.size ≤ W.heap.size → Kp W (W.alloc ob)) (hT : OwnFrom w.heap.size T) (hb0 : Below w0.heap.size w0 w) (hps : ∀ x, (encs x).size = ps.size)
    (I : List α → World → Prop) (Ix : Code → List α → World → Prop) (hI : OwnFrom w.heap.size I) (hIx : ∀ c, OwnFrom w.heap.size (Ix c)) (h0 : I [] w) (a₁ : α → Nat → Act)
    (hassign : ∀ (l : Nat) (x : α) (W : World) (K : Act → World → Prop), K (a₁ x W.heap.size) (W.alloc (o x)) →
      assign.wpIn (Fence.wide.inRound l) (n - 1 - 1) P (Exit.then K (fun _ _ _ => False)) { tmps := (ps.zip (encs x)).foldl (fun t (p, v) => t.setIfInBounds p v) a.tmps, defers := [] } W)
    (hbody : ∀ (l : Nat) (pre : List α) (x : α) (W : World) (k : Nat), I pre W → T (pre ++ [x]) W → pre.length < N → w.heap.size ≤ k → W.heap[k]? = some (o x) → body.wpIn (Fence.wide.inRound l) (n - 1 - 1) P (told w.heap.size Kp I Ix (pre ++ [x]) W) (a₁ x k) W)
    (hdone : ∀ (D : Nat) (xs : List α) (W : World), w.heap.size ≤ D → S xs → T xs W → I xs W → W.heap[D]? = some (.deferred (some [])) → Q .normal { a with defers := { target := .collected D, args := #[] } :: a.defers } W)
    (hstop : ∀ (D : Nat) (c : Code) (pre : List α) (W : World), w.heap.size ≤ D → Ix c pre W → W.heap[D]? = some (.deferred (some [])) → c.wpIn Fence.wide n P Q { a with defers := { target := .collected D, args := #[] } :: a.defers } W) :
    (Code.rangeFunc g ps assign body).wpIn Fence.wide n P Q a w := by
  refine wpIn_rangeFunc fun fn hfn => ?_
  obtain ⟨R, hR⟩ : ∃ R : LoopState → Option Code → Loop, ∀ st pe, R st pe = { state := st, pending := pe, fn, tmps := a.tmps, params := ps, assign, body, defers := w.heap.size } := ⟨_, fun _ _ => rfl⟩
  obtain ⟨W1, hW1⟩ : ∃ W1, W1 = (w.alloc (.deferred (some []))).alloc (.loop (R .ready none)) := ⟨_, rfl⟩
  have hL1 : LoopAt w.heap.size (R .ready none) W1 := by
    rw [hW1]
    refine ⟨?_, (Below.heap_alloc _ _ _ (by simp)).trans (World.alloc_heap_new w _)⟩
    have := World.alloc_heap_new (w.alloc (.deferred (some []))) (.loop (R .ready none))
    rwa [World.size_alloc] at this
  have hB1 : Below w0.heap.size w0 W1 := by
    rw [hW1]
    exact hb0.trans ((((Below.refl _ w).alloc (Nat.le_refl _) _).alloc (by simp) _).mono hb0.size)
  have hs1 : w.heap.size + 2 = W1.heap.size := by rw [hW1]; simp
  have enter : (Instr.enterLoop fn a.tmps ps assign body Fence.wide.round).run P w = .ok (w.heap.size + 1, [{ target := .collected w.heap.size, args := #[] }]) W1 := by
    rw [hW1, hR]; exact run_enterLoop_outer _ _ _ _ _
  have resolved : (resolve a.eval (rangeCall g (w.heap.size + 1)) 0).run P W1 = .ok { target := .fn (.func gf) lb, args := #[.func (.yield (w.heap.size + 1)) #[] #[]] } W1 := by
    simp only [resolve, hg]
    simp [go_sem]
  refine ⟨_, _, W1, _, W1, gf, #[.func (.yield (w.heap.size + 1)) #[] #[]] ++ lb, W1, enter, resolved, fun _ _ => trivial, by simp [invoke, go_sem, eg], fun _ => h1, ?_⟩
  have own : ∀ {A : World} {row : Option Nat}, (∀ r, row = some r → W1.heap.size ≤ r ∧ ∃ o : Obj, A.heap[r]? = some o ∧ o.isWalk = true) → ∀ r, row = some r → w.heap.size ≤ r ∧ ∃ o : Obj, A.heap[r]? = some o ∧ o.isCells = false :=
    fun hr r e => by
      obtain ⟨hB, o, ho, hw⟩ := hr r e
      exact ⟨by omega, o, ho, Obj.not_cells_of_walk hw⟩
  refine (hseq (w.heap.size + 1) (fun pre W => I pre W ∧ LoopAt w.heap.size (R .ready none) W) (fun pre W => ∃ c, Ix c pre W ∧ LoopAt w.heap.size (R .done (some c)) W) W1 hB1
    (fun s A B row hs hg' hr => ⟨hI s A B row hs.1 hg' (own hr), hs.2.grown hg' fun r e => (hr r e).2⟩)
    (fun s A B row ⟨c, hc, hl⟩ hg' hr => ⟨c, hIx c s A B row hc hg' (own hr), hl.grown hg' fun r e => (hr r e).2⟩)
    (fun pre x W ⟨hi, hl⟩ hT1 hlen => ?_) ⟨by rw [hW1]; exact hI.alloc _ (hI.alloc _ h0), hL1⟩).mono ?_
  · have hy := run_yield (P := P) (args := encs x) hl.lay (by rw [hR]; exact hps x)
    rw [hR] at hy
    have hla : LoopAt w.heap.size (R .ready none) (W.alloc (o x)) := hl.grown (World.grownBy_alloc W (o x) none) (fun r e => by cases e)
    have hlW : w.heap.size + 1 < W.heap.size := (Array.getElem?_eq_some_iff.1 hl.lay).1
    have hia : I pre (W.alloc (o x)) := hI.alloc _ hi
    have hTa : T (pre ++ [x]) (W.alloc (o x)) := hT.alloc _ hT1
    refine ⟨fn, _, assign, body, hy, roundIn_of_wpIn hfn (hassign _ x W _ ⟨_, run_beginRound hla.lay (by rw [hR]), ?_⟩)⟩
    have busy : { R .ready none with state := .busy } = R .busy none := by rw [hR, hR]
    rw [busy]
    have hl2 : LoopAt w.heap.size (R .busy none) ((W.alloc (o x)).putObj (w.heap.size + 1) (.loop (R .busy none))) := hla.turn
    have hk2 : Kp W ((W.alloc (o x)).putObj (w.heap.size + 1) (.loop (R .busy none))) := hKt (hKa W (o x) (by omega)) (hKb _ _ _ _ (by omega) hla.lay)
    refine wpIn_mono (hbody _ pre x _ W.heap.size (hI.putObj _ hia (by omega) hla.lay rfl) (hT.putObj _ hTa (by omega) hla.lay rfl) hlen (by omega) ((World.putObj_heap_other (by omega)).trans (heap_alloc_new W (o x)))) fun e a3 W3 hp => ?_
    have fin : ∀ (jump : Option Code), LoopAt w.heap.size (R .busy none) W3 → (Instr.endRound (w.heap.size + 1) jump).run P W3 = .ok (.bool jump.isNone) (W3.putObj (w.heap.size + 1) (.loop (R (if jump.isNone then .ready else .done) jump))) := fun jump hl3 => by
      have := run_endRound (P := P) jump hl3.lay
      rw [hR] at this ⊢
      exact this
    have gone : ∀ c, KeepsFrom w.heap.size ((W.alloc (o x)).putObj (w.heap.size + 1) (.loop (R .busy none))) W3 → Ix c (pre ++ [x]) W3 →
        ∃ v w', (Instr.endRound (w.heap.size + 1) (some c)).run P W3 = .ok v w' ∧ ((Ending.returned v = .returned (.bool true) ∧ (I (pre ++ [x]) w' ∧ LoopAt w.heap.size (R .ready none) w') ∧ Kp W w') ∨ (Ending.returned v = .returned (.bool false) ∧ ∃ c, Ix c (pre ++ [x]) w' ∧ LoopAt w.heap.size (R .done (some c)) w')) :=
      fun c hk hx => ⟨_, _, fin (some c) (hl2.keep hk), .inr ⟨rfl, c, (hIx c).putObj _ hx (by omega) (hl2.keep hk).lay rfl, (hl2.keep hk).turn⟩⟩
    cases e with
    | normal =>
      obtain ⟨hk, hkp, hi3⟩ := hp
      have hl3 := hl2.keep hk
      exact ⟨_, _, fin none hl3, .inl ⟨rfl, ⟨hI.putObj _ hi3 (by omega) hl3.lay rfl, hl3.turn⟩, hKt (hKt hk2 hkp) (hKb _ _ _ _ (by omega) hl3.lay)⟩⟩
    | ret => exact gone _ hp.1 hp.2
    | exit id => exact gone _ hp.1 hp.2
    | goto t => exact gone _ hp.1 hp.2
    | panic ch => exact hp.elim
    | outgrown => exact hp.elim
  · rintro e W2 ⟨⟨v, rfl⟩, ⟨xs, hS, hTx, hi, hl⟩ | ⟨pre, c, hi, hl⟩⟩
    · have he := run_endLoop (P := P) hl.lay (by rw [hR]; simp)
      rw [hR] at he
      exact ⟨none, _, he, hdone _ xs _ (Nat.le_refl _) hS (hT.putObj _ hTx (by omega) hl.lay rfl) (hI.putObj _ hi (by omega) hl.lay rfl) ((World.putObj_heap_other (by omega)).trans hl.dfr)⟩
    · have he := run_endLoop (P := P) hl.lay (by rw [hR]; simp)
      rw [hR] at he
      exact ⟨some c, _, he, hstop _ c pre _ (Nat.le_refl _) ((hIx c).putObj _ hi (by omega) hl.lay rfl) ((World.putObj_heap_other (by omega)).trans hl.dfr)⟩

end Go.Proofs.Ythbaldjdfehhlaa
