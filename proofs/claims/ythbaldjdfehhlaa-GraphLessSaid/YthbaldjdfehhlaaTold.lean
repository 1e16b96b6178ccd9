/- A range over a function whose iterator tells of each element something about the memory behind it ('T'), in the round and behind the loop. -/
import Derived.Test.YthbaldjdfehhlaaProg
import Derived.RangeFuncNested
import Derived.RangeFuncBound
import Derived.RangeFuncCalls
import Derived.RangeFuncLeaves
import Derived.RangeFuncBox
namespace Go.Proofs.Ythbaldjdfehhlaa
open Go.RowKit

/-- the iterator's contract: in each round, and behind them, T holds of what has come -/
def Tells {α : Type} (n : Nat) (P : Program) (g : Nat) (lb : Array Value) (encs : α → Array Value) (Kp : World → World → Prop) (T : List α → World → Prop) (S : List α → Prop) (N : Nat) (w : World) : Prop :=
  ∀ (l : Nat) (J Jx : List α → World → Prop) (W : World), Below w.heap.size w W → AbidesFrom W.heap.size J → AbidesFrom W.heap.size Jx →
    (∀ pre x W1, J pre W1 → T (pre ++ [x]) W1 → pre.length < N → YieldAt Fence.wide (n - 1) P l (encs x) W1 fun e W' =>
      (e = .returned (.bool true) ∧ J (pre ++ [x]) W' ∧ Kp W1 W') ∨ (e = .returned (.bool false) ∧ Jx (pre ++ [x]) W')) →
    J [] W →
    CallsIn Fence.wide n P g (#[.func (.yield l) #[] #[]] ++ lb) W fun e W' => (∃ v, e = .returned v) ∧ ((∃ xs, S xs ∧ T xs W' ∧ J xs W') ∨ ∃ pre, Jx pre W')

variable {n : Nat} {P : Program}

/-- the loop's two blocks: the one of the rounds' deferred calls at B, the record behind it -/
structure LoopAt (B : Nat) (R : Loop) (W : World) : Prop where
  lay : W.heap[B + 1]? = some (.loop R)
  dfr : W.heap[B]? = some (.deferred (some []))

theorem LoopAt.turn {B : Nat} {R R' : Loop} {W : World} (h : LoopAt B R W) : LoopAt B R' (W.putObj (B + 1) (.loop R')) :=
  ⟨World.putObj_heap_same (Array.getElem?_eq_some_iff.1 h.lay).1, (World.putObj_heap_other (by omega)).trans h.dfr⟩
theorem LoopAt.keep {B : Nat} {R : Loop} {W W' : World} (h : LoopAt B R W) (hk : KeepsFrom B W W') : LoopAt B R W' :=
  ⟨hk.same _ _ (by omega) h.lay rfl, hk.same _ _ (Nat.le_refl _) h.dfr rfl⟩
theorem LoopAt.grown {B : Nat} {R : Loop} {W W' : World} {row : Option Nat} (h : LoopAt B R W) (hg : W.grownBy W' row) (hr : ∀ r, row = some r → ∃ o : Obj, W.heap[r]? = some o ∧ o.isWalk = true) : LoopAt B R W' :=
  ⟨(grownBy_keeps hg hr h.lay rfl).trans h.lay, (grownBy_keeps hg hr h.dfr rfl).trans h.dfr⟩

/-- how a round's body may be left -/
def told {α : Type} (B : Nat) (Kp : World → World → Prop) (I : List α → World → Prop) (Ix : Code → List α → World → Prop) (xs : List α) (W : World) : Exit → Act → World → Prop
  | .normal, _, W' => KeepsFrom B W W' ∧ Kp W W' ∧ I xs W'
  | .ret, _, W' => KeepsFrom B W W' ∧ Ix .ret xs W'
  | .exit id, _, W' => KeepsFrom B W W' ∧ Ix (.exit id) xs W'
  | .goto t, _, W' => KeepsFrom B W W' ∧ Ix (.goto t) xs W'
  | .panic _, _, _ => False
  | .outgrown, _, _ => False

/-- the iterator must leave alone what the loop's own record is not -/
theorem range_told_loop {α : Type} {g : Operand} {ps : Array Tmp} {assign body : Code} {Q : Exit → Act → World → Prop} {a : Act} {w : World} {gf : Nat} {lb : Array Value}
    (h1 : 1 ≤ n) (hg : a.eval g = .func (.func gf) #[] lb) (eg : ∀ args w, (callFunc gf args).run P w = .ok (.enter gf args) w)
    {encs : α → Array Value} {Kp : World → World → Prop} {T : List α → World → Prop} {S : List α → Prop} {N : Nat} {w0 : World} (hseq : Tells (n - 1) P gf lb encs Kp T S N w0)
    (hKt : ∀ {A B C : World}, Kp A B → Kp B C → Kp A C) (hKb : ∀ (W : World) (l : Nat) (R : Loop) (o' : Obj), w.heap.size ≤ l → W.heap[l]? = some (.loop R) → Kp W (W.putObj l o'))
    (hT : OwnFrom w.heap.size T) (hb0 : Below w0.heap.size w0 w) (hps : ∀ x, (encs x).size = ps.size)
    (I : List α → World → Prop) (Ix : Code → List α → World → Prop) (hI : OwnFrom w.heap.size I) (hIx : ∀ c, OwnFrom w.heap.size (Ix c)) (h0 : I [] w) (a₁ : α → Act)
    (hassign : ∀ (l : Nat) (x : α) (W : World) (K : Act → World → Prop), K (a₁ x) W →
      assign.wpIn (Fence.wide.inRound l) (n - 1 - 1) P (Exit.then K (fun _ _ _ => False)) { tmps := (ps.zip (encs x)).foldl (fun t (p, v) => t.setIfInBounds p v) a.tmps, defers := [] } W)
    (hbody : ∀ (l : Nat) (pre : List α) (x : α) (W : World), I pre W → T (pre ++ [x]) W → pre.length < N → body.wpIn (Fence.wide.inRound l) (n - 1 - 1) P (told w.heap.size Kp I Ix (pre ++ [x]) W) (a₁ x) W)
    (hdone : ∀ (D : Nat) (xs : List α) (W : World), w.heap.size ≤ D → S xs → T xs W → I xs W → W.heap[D]? = some (.deferred (some [])) → Q .normal { a with defers := { target := .collected D, args := #[] } :: a.defers } W)
    (hstop : ∀ (D : Nat) (c : Code) (pre : List α) (W : World), w.heap.size ≤ D → Ix c pre W → W.heap[D]? = some (.deferred (some [])) → c.wpIn Fence.wide n P Q { a with defers := { target := .collected D, args := #[] } :: a.defers } W) :
    (Code.rangeFunc g ps assign body).wpIn Fence.wide n P Q a w := by
  refine wpIn_rangeFunc fun fn hfn => ?_
  obtain ⟨R, hR⟩ : ∃ R : LoopState → Option Code → Loop, ∀ st pe, R st pe = { state := st, pending := pe, fn, tmps := a.tmps, params := ps, assign, body, defers := w.heap.size } := ⟨_, fun _ _ => rfl⟩
  obtain ⟨W1, hW1⟩ : ∃ W1, W1 = (w.alloc (.deferred (some []))).alloc (.loop (R .ready none)) := ⟨_, rfl⟩
  have hL1 : LoopAt w.heap.size (R .ready none) W1 := by
    rw [hW1]
    refine ⟨?_, (Below.heap_alloc _ _ _ (by simp)).trans (World.alloc_heap_new w _)⟩
    have := World.alloc_heap_new (w.alloc (.deferred (some []))) (.loop (R .ready none))
    rwa [World.size_alloc] at this
  have hB1 : Below w0.heap.size w0 W1 := by
    rw [hW1]
    exact hb0.trans ((((Below.refl _ w).alloc (Nat.le_refl _) _).alloc (by simp) _).mono hb0.size)
  have hs1 : w.heap.size + 2 = W1.heap.size := by rw [hW1]; simp
  have enter : (Instr.enterLoop fn a.tmps ps assign body Fence.wide.round).run P w = .ok (w.heap.size + 1, [{ target := .collected w.heap.size, args := #[] }]) W1 := by
    rw [hW1, hR]; exact run_enterLoop_outer _ _ _ _ _
  have resolved : (resolve a.eval (rangeCall g (w.heap.size + 1)) 0).run P W1 = .ok { target := .fn (.func gf) lb, args := #[.func (.yield (w.heap.size + 1)) #[] #[]] } W1 := by
    simp only [resolve, hg]
    simp [go_sem]
  refine ⟨_, _, W1, _, W1, gf, #[.func (.yield (w.heap.size + 1)) #[] #[]] ++ lb, W1, enter, resolved, fun _ _ => trivial, by simp [invoke, go_sem, eg], fun _ => h1, ?_⟩
  have own : ∀ {A : World} {row : Option Nat}, (∀ r, row = some r → W1.heap.size ≤ r ∧ ∃ o : Obj, A.heap[r]? = some o ∧ o.isWalk = true) → ∀ r, row = some r → w.heap.size ≤ r ∧ ∃ o : Obj, A.heap[r]? = some o ∧ o.isCells = false :=
    fun hr r e => by
      obtain ⟨hB, o, ho, hw⟩ := hr r e
      exact ⟨by omega, o, ho, Obj.not_cells_of_walk hw⟩
  refine (hseq (w.heap.size + 1) (fun pre W => I pre W ∧ LoopAt w.heap.size (R .ready none) W) (fun pre W => ∃ c, Ix c pre W ∧ LoopAt w.heap.size (R .done (some c)) W) W1 hB1
    (fun s A B row hs hg' hr => ⟨hI s A B row hs.1 hg' (own hr), hs.2.grown hg' fun r e => (hr r e).2⟩)
    (fun s A B row ⟨c, hc, hl⟩ hg' hr => ⟨c, hIx c s A B row hc hg' (own hr), hl.grown hg' fun r e => (hr r e).2⟩)
    (fun pre x W ⟨hi, hl⟩ hT1 hlen => ?_) ⟨by rw [hW1]; exact hI.alloc _ (hI.alloc _ h0), hL1⟩).mono ?_
  · have hy := run_yield (P := P) (args := encs x) hl.lay (by rw [hR]; exact hps x)
    rw [hR] at hy
    refine ⟨fn, _, assign, body, hy, roundIn_of_wpIn hfn (hassign _ x W _ ⟨_, run_beginRound hl.lay (by rw [hR]), ?_⟩)⟩
    have busy : { R .ready none with state := .busy } = R .busy none := by rw [hR, hR]
    rw [busy]
    have hl2 : LoopAt w.heap.size (R .busy none) (W.putObj (w.heap.size + 1) (.loop (R .busy none))) := hl.turn
    have hk2 : Kp W (W.putObj (w.heap.size + 1) (.loop (R .busy none))) := hKb _ _ _ _ (by omega) hl.lay
    refine wpIn_mono (hbody _ pre x _ (hI.putObj _ hi (by omega) hl.lay rfl) (hT.putObj _ hT1 (by omega) hl.lay rfl) hlen) fun e a3 W3 hp => ?_
    have fin : ∀ (jump : Option Code), LoopAt w.heap.size (R .busy none) W3 → (Instr.endRound (w.heap.size + 1) jump).run P W3 = .ok (.bool jump.isNone) (W3.putObj (w.heap.size + 1) (.loop (R (if jump.isNone then .ready else .done) jump))) := fun jump hl3 => by
      have := run_endRound (P := P) jump hl3.lay
      rw [hR] at this ⊢
      exact this
    have gone : ∀ c, KeepsFrom w.heap.size (W.putObj (w.heap.size + 1) (.loop (R .busy none))) W3 → Ix c (pre ++ [x]) W3 →
        ∃ v w', (Instr.endRound (w.heap.size + 1) (some c)).run P W3 = .ok v w' ∧ ((Ending.returned v = .returned (.bool true) ∧ (I (pre ++ [x]) w' ∧ LoopAt w.heap.size (R .ready none) w') ∧ Kp W w') ∨ (Ending.returned v = .returned (.bool false) ∧ ∃ c, Ix c (pre ++ [x]) w' ∧ LoopAt w.heap.size (R .done (some c)) w')) :=
      fun c hk hx => ⟨_, _, fin (some c) (hl2.keep hk), .inr ⟨rfl, c, (hIx c).putObj _ hx (by omega) (hl2.keep hk).lay rfl, (hl2.keep hk).turn⟩⟩
    cases e with
    | normal =>
      obtain ⟨hk, hkp, hi3⟩ := hp
      have hl3 := hl2.keep hk
      exact ⟨_, _, fin none hl3, .inl ⟨rfl, ⟨hI.putObj _ hi3 (by omega) hl3.lay rfl, hl3.turn⟩, hKt (hKt hk2 hkp) (hKb _ _ _ _ (by omega) hl3.lay)⟩⟩
    | ret => exact gone _ hp.1 hp.2
    | exit id => exact gone _ hp.1 hp.2
    | goto t => exact gone _ hp.1 hp.2
    | panic ch => exact hp.elim
    | outgrown => exact hp.elim
  · rintro e W2 ⟨⟨v, rfl⟩, ⟨xs, hS, hTx, hi, hl⟩ | ⟨pre, c, hi, hl⟩⟩
    · have he := run_endLoop (P := P) hl.lay (by rw [hR]; simp)
      rw [hR] at he
      exact ⟨none, _, he, hdone _ xs _ (Nat.le_refl _) hS (hT.putObj _ hTx (by omega) hl.lay rfl) (hI.putObj _ hi (by omega) hl.lay rfl) ((World.putObj_heap_other (by omega)).trans hl.dfr)⟩
    · have he := run_endLoop (P := P) hl.lay (by rw [hR]; simp)
      rw [hR] at he
      exact ⟨some c, _, he, hstop _ c pre _ (Nat.le_refl _) ((hIx c).putObj _ hi (by omega) hl.lay rfl) ((World.putObj_heap_other (by omega)).trans hl.dfr)⟩


theorem range_told {α : Type} {g : Operand} {ps : Array Tmp} {assign body : Code} {Q : Exit → Act → World → Prop} {a : Act} {w : World} {gf : Nat} {lb : Array Value}
    (h1 : 1 ≤ n) (hg : a.eval g = .func (.func gf) #[] lb) (eg : ∀ args w, (callFunc gf args).run P w = .ok (.enter gf args) w)
    {encs : α → Array Value} {Kp : World → World → Prop} {T : List α → World → Prop} {S : List α → Prop} {N : Nat} {w0 : World} (hseq : Tells (n - 1) P gf lb encs Kp T S N w0)
    (hKt : ∀ {A B C : World}, Kp A B → Kp B C → Kp A C) (hKb : ∀ (W : World) (l : Nat) (o o' : Obj), w.heap.size ≤ l → W.heap[l]? = some o → o.isCells = false → Kp W (W.putObj l o'))
    (hT : OwnFrom w.heap.size T) (hb0 : Below w0.heap.size w0 w) (hps : ∀ x, (encs x).size = ps.size)
    (I : List α → World → Prop) (Ix : Code → List α → World → Prop) (hI : OwnFrom w.heap.size I) (hIx : ∀ c, OwnFrom w.heap.size (Ix c)) (h0 : I [] w) (a₁ : α → Act)
    (hassign : ∀ (l : Nat) (x : α) (W : World) (K : Act → World → Prop), K (a₁ x) W →
      assign.wpIn (Fence.wide.inRound l) (n - 1 - 1) P (Exit.then K (fun _ _ _ => False)) { tmps := (ps.zip (encs x)).foldl (fun t (p, v) => t.setIfInBounds p v) a.tmps, defers := [] } W)
    (hbody : ∀ (l : Nat) (pre : List α) (x : α) (W : World), I pre W → T (pre ++ [x]) W → pre.length < N → body.wpIn (Fence.wide.inRound l) (n - 1 - 1) P (told w.heap.size Kp I Ix (pre ++ [x]) W) (a₁ x) W)
    (hdone : ∀ (D : Nat) (xs : List α) (W : World), w.heap.size ≤ D → S xs → T xs W → I xs W → W.heap[D]? = some (.deferred (some [])) → Q .normal { a with defers := { target := .collected D, args := #[] } :: a.defers } W)
    (hstop : ∀ (D : Nat) (c : Code) (pre : List α) (W : World), w.heap.size ≤ D → Ix c pre W → W.heap[D]? = some (.deferred (some [])) → c.wpIn Fence.wide n P Q { a with defers := { target := .collected D, args := #[] } :: a.defers } W) :
    (Code.rangeFunc g ps assign body).wpIn Fence.wide n P Q a w :=
  range_told_loop h1 hg eg hseq hKt (fun W l _ o' hl h => hKb W l _ o' hl h rfl) hT hb0 hps I Ix hI hIx h0 a₁ hassign hbody hdone hstop

end Go.Proofs.Ythbaldjdfehhlaa
