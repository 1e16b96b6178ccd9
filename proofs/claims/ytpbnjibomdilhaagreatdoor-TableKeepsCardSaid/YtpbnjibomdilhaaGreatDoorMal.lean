/- append to a slice of the call's own, of any slice: one that is nil, too. Rows of numbers that a call makes itself. A range over a function whose iterator tells of each element something about the memory behind it ('T'), in the round and behind the loop. -/
import Derived.Test.YtpbnjibomdilhaaGreatDoorProg
import Derived.WalkKit
import Derived.Lib.Hide
import Derived.Laws.AppendOwn
import Derived.Laws.OwnMore
import Derived.Lib.AppendZeros
import Derived.Test.YtpbnjibomdilhaaGreatDoorMak
import Derived.Deep.AppendLies
import Derived.RangeFuncNested
import Derived.RangeFuncBound
import Derived.RangeFuncCalls
import Derived.RangeFuncLeaves
import Derived.RangeFuncBox
namespace Go.Proofs.YtpbnjibomdilhaaGreatDoor.Gph
open Go.RowKit

section
variable {P : Program}

theorem run_append_any (w : World) (base : Nat) (t ty e : TypeId) (i : TypeInfo) (z : Value) (bytes : Nat) (ht : P.underlying t = some (.slice e)) (hi : P.info? e = some i) (hz : i.zero = some z)
    (hsize : i.size = 1) (hby : i.bytes = bytes) (hzs : z.cells.size = 1) (v : Value) (n : Nat) (xs : List Value) (hown : w.ownsRow base e 1 v n xs)
    (ao : Option Addr) (m c : Nat) (news : List Value) (hl : news.length = m) (hnone : ao = none → m = 0 ∧ c = 0) (hnews : ∀ ad, ao = some ad → ∀ j u, news[j]? = some u → w.cell? (ad.add j) = some u) (h1 : ∀ u ∈ news, u.oneCell' = true)
    (h63 : n + m ≤ maxLen) (hbytes : (n + m) * bytes ≤ 140737488355328) (hbase : base ≤ w.heap.size) :
    ∃ v' w', (Builtin.append_ #[t, t] ty #[v, .slice ao m c]).run P w = .ok v' w' ∧ w'.ownsRow base e 1 v' (n + m) (xs ++ news) ∧ w.grownBy w' v.ownBlock := by
  cases ao with
  | some ad =>
    obtain ⟨v', w', h1, h2, h3, _⟩ := run_append_own (P := P) w base t ty e i z 1 bytes ht hi hz hsize hby hzs (by omega) v n xs hown ad m c news (by omega) (hnews ad rfl) h1 h63 hbytes hbase
    exact ⟨v', w', h1, h2, h3⟩
  | none =>
    obtain ⟨rfl, rfl⟩ := hnone rfl
    have hn : news = [] := List.eq_nil_of_length_eq_zero hl
    subst hn
    refine ⟨v, w, run_append_owned_none (P := P) w base t ty e i 1 ht hi v n xs hown, by simpa using hown, ⟨rfl, rfl, rfl, Nat.le_refl _, fun _ _ _ => rfl⟩⟩

theorem wpList_append_any (w : World) {ops : Array Oper} {rest : List Oper} {o : Oper} {a : Act} {Q : Exit → Act → World → Prop} (hgd : o.guard = none) (s x : Operand) (t : TypeId)
    (ho : o.op = .call { callee := .builtin .append, args := #[s, x], argTypes := #[t, t] })
    (base : Nat) (e : TypeId) (i : TypeInfo) (z : Value) (bytes : Nat) (ht : P.underlying t = some (.slice e)) (hi : P.info? e = some i) (hz : i.zero = some z)
    (hsize : i.size = 1) (hby : i.bytes = bytes) (hzs : z.cells.size = 1) (v : Value) (n : Nat) (xs : List Value) (hs : a.eval s = v) (hown : w.ownsRow base e 1 v n xs)
    (ao : Option Addr) (m c : Nat) (news : List Value) (hx : a.eval x = .slice ao m c) (hl : news.length = m) (hnone : ao = none → m = 0 ∧ c = 0) (hnews : ∀ ad, ao = some ad → ∀ j u, news[j]? = some u → w.cell? (ad.add j) = some u) (h1 : ∀ u ∈ news, u.oneCell' = true)
    (h63 : n + m ≤ maxLen) (hbytes : (n + m) * bytes ≤ 140737488355328) (hbase : base ≤ w.heap.size)
    (h : ∀ v' w', w'.ownsRow base e 1 v' (n + m) (xs ++ news) → w.grownBy w' v.ownBlock → wpList P ops Q rest (a.put o.dst v') w') : wpList P ops Q (o :: rest) a w := by
  obtain ⟨v', w', hr, h2, h3⟩ := run_append_any (P := P) w base t o.type e i z bytes ht hi hz hsize hby hzs v n xs hown ao m c news hl hnone hnews h1 h63 hbytes hbase
  exact Lib.wpList_append_run w hgd s x t t ho v _ hs hx v' w' hr (h v' w' h2 h3)
end

end Go.Proofs.YtpbnjibomdilhaaGreatDoor.Gph

namespace Go.Proofs.YtpbnjibomdilhaaGreatDoor.Gph
open Go.RowKit Gr Go.Sort

theorem infoU64 : (Tryz.prog.info? 26).map (fun i => (i.zero, i.size, i.bytes)) = some (some (.int .u64 0), 1, 8) := by kernel_rfl

/-- v holds just the numbers xs, in a block from B on -/
structure RowU (B : Nat) (v : Value) (xs : List Int) (W : World) : Prop where
  own : W.ownsRow B 26 1 v xs.length (xs.map encU)
section
variable {B : Nat} {v : Value} {xs : List Int} {W W' : World}
theorem RowU.below (t : RowU B v xs W) (hb : Below W.heap.size W W') : RowU B v xs W' := by
  obtain ⟨h⟩ := t
  refine ⟨h.1, ?_⟩
  rcases h.2 with hn | ⟨g, cap, cur, rfl, hB, hg, rest⟩
  · exact .inl hn
  · exact .inr ⟨g, cap, cur, rfl, hB, (hb.block g (Array.getElem?_eq_some_iff.1 hg).1).trans hg, rest⟩
/-- it stands where all below a bound stands, if it lies there -/
theorem RowU.keep (t : RowU B v xs W) {B' : Nat} (hb : Below B' W W') (hk : ∀ k, v.ownBlock = some k → k < B') : RowU B v xs W' := by
  obtain ⟨h⟩ := t
  refine ⟨h.1, ?_⟩
  rcases h.2 with hn | ⟨g, cap, cur, rfl, hB, hg, rest⟩
  · exact .inl hn
  · exact .inr ⟨g, cap, cur, rfl, hB, (hb.block g (hk g (by simp [Value.ownBlock]))).trans hg, rest⟩
theorem RowU.less (t : RowU B v xs W) {B' : Nat} (hB : B' ≤ B) : RowU B' v xs W := by
  obtain ⟨h⟩ := t
  refine ⟨h.1, ?_⟩
  rcases h.2 with hn | ⟨g, cap, cur, rfl, hb, rest⟩
  · exact .inl hn
  · exact .inr ⟨g, cap, cur, rfl, by omega, rest⟩
theorem RowU.nil (B : Nat) (W : World) : RowU B (.slice none 0 0) [] W := ⟨World.ownsRow_nil _ _ _ _⟩
theorem RowU.lt (t : RowU B v xs W) : ∀ k, v.ownBlock = some k → B ≤ k ∧ k < W.heap.size := fun k hk => t.own.lt k hk
/-- as it is read -/
theorem RowU.nums (t : RowU B v xs W) (hf : ∀ x ∈ xs, U64 x) : ∃ a c, v = .slice a xs.length c ∧ NumsF W a xs ∧ (a = none → xs = []) ∧ xs.length ≤ c ∧ c ≤ maxLen := by
  obtain ⟨h⟩ := t
  rcases h.2 with ⟨rfl, hn⟩ | ⟨g, cap, cur, rfl, hB, hg, hc, hm, _⟩
  · obtain rfl := List.eq_nil_of_length_eq_zero hn
    exact ⟨none, 0, rfl, NumsF.nil _ _, fun _ => rfl, Nat.le_refl _, Nat.zero_le _⟩
  · refine ⟨some ⟨g, 0, none⟩, cap, rfl, ⟨⟨g, 0, fun _ => rfl, fun i hi => ⟨(Array.getElem?_eq_some_iff.1 hg).1, ?_⟩⟩, hf⟩, fun e => by simp at e, hc, hm⟩
    rw [Nat.zero_add]
    rw [h.cellAt i (by omega)]
    simp [hi, encU]
theorem RowU.shape (t : RowU B v xs W) : ∃ a c, v = .slice a xs.length c := by
  obtain ⟨h⟩ := t
  rcases h.2 with ⟨rfl, hn⟩ | ⟨g, cap, cur, rfl, _⟩
  · exact ⟨none, 0, by rw [hn]⟩
  · exact ⟨_, _, rfl⟩
theorem RowU.read {a : Option Addr} {n c : Nat} (t : RowU B (.slice a n c) xs W) (hf : ∀ x ∈ xs, U64 x) : NumsF W a xs ∧ xs.length ≤ c ∧ c ≤ maxLen := by
  obtain ⟨a', c', e, h, _, h2, h3⟩ := t.nums hf
  cases e
  exact ⟨h, h2, h3⟩
/-- as an append's source -/
theorem RowU.news {a : Option Addr} {n c : Nat} (t : RowU B (.slice a n c) xs W) : (a = none → n = 0 ∧ c = 0) ∧ ∀ ad, a = some ad → ∀ j u, (xs.map encU)[j]? = some u → W.cell? (ad.add j) = some u := by
  obtain ⟨h⟩ := t
  have h' := h
  rcases h.2 with ⟨e, hn⟩ | ⟨g, cap, cur, e, _⟩
  · cases e
    exact ⟨fun _ => ⟨rfl, rfl⟩, fun ad e => by cases e⟩
  · cases e
    exact ⟨(fun e => by cases e), fun ad e => by cases e; exact h'.cells (g := g) rfl⟩
theorem oneU (xs : List Int) : ∀ u ∈ xs.map encU, u.oneCell' = true := fun u hu => by
  obtain ⟨x, _, rfl⟩ := List.mem_map.1 hu
  rfl
/-- one more, behind an append -/
theorem RowU.snoc {v' : Value} {x : Int} (h : W'.ownsRow B 26 1 v' (xs.length + 1) (xs.map encU ++ [.int .u64 x])) : RowU B v' (xs ++ [x]) W' :=
  ⟨by rw [List.length_append, List.map_append]; exact h⟩
theorem RowU.join {v' : Value} {ys : List Int} (h : W'.ownsRow B 26 1 v' (xs.length + ys.length) (xs.map encU ++ ys.map encU)) : RowU B v' (xs ++ ys) W' :=
  ⟨by rw [List.length_append, List.map_append]; exact h⟩
/-- what a row is not stands behind an append to it -/
theorem RowU.grown {w : World} (t : RowU B v xs W) (hb : Below B w W) (hs : B ≤ W.heap.size) (hg : W.grownBy W' v.ownBlock) : Below B w W' := hb.grown hg hs fun k e => (t.lt k e).1
end
/-- a literal of one number -/
theorem rowU_one (w : World) (x : Int) : RowU w.heap.size (.slice (some ⟨w.heap.size, 0, none⟩) 1 1) [x] (w.alloc (.cells #[.int .u64 x] 26)) := by
  exact ⟨World.ownsRow_lit w #[.int .u64 x] 1 (Nat.le_refl _) (by unfold maxLen; omega) rfl⟩

end Go.Proofs.YtpbnjibomdilhaaGreatDoor.Gph

namespace Go.Proofs.YtpbnjibomdilhaaGreatDoor.Gph
open Go.RowKit

/-- the iterator's contract: in each round, and behind them, T holds of what has come -/
def Tells {α : Type} (n : Nat) (P : Program) (g : Nat) (lb : Array Value) (encs : α → Array Value) (Kp : World → World → Prop) (T : List α → World → Prop) (S : List α → Prop) (N : Nat) (w : World) : Prop :=
  ∀ (l : Nat) (J Jx : List α → World → Prop) (W : World), Below w.heap.size w W → AbidesFrom W.heap.size J → AbidesFrom W.heap.size Jx →
    (∀ pre x W1, J pre W1 → T (pre ++ [x]) W1 → pre.length < N → YieldAt Fence.wide (n - 1) P l (encs x) W1 fun e W' =>
      (e = .returned (.bool true) ∧ J (pre ++ [x]) W' ∧ Kp W1 W') ∨ (e = .returned (.bool false) ∧ Jx (pre ++ [x]) W')) →
    J [] W →
    CallsIn Fence.wide n P g (#[.func (.yield l) #[] #[]] ++ lb) W fun e W' => (∃ v, e = .returned v) ∧ ((∃ xs, S xs ∧ T xs W' ∧ J xs W') ∨ ∃ pre, Jx pre W')

variable {n : Nat} {P : Program}

/-- the loop's two blocks: the one of the rounds' deferred calls at B, the record behind it -/
structure LoopAt (B : Nat) (R : Loop) (W : World) : Prop where
  lay : W.heap[B + 1]? = some (.loop R)
  dfr : W.heap[B]? = some (.deferred (some []))

theorem LoopAt.turn {B : Nat} {R R' : Loop} {W : World} (h : LoopAt B R W) : LoopAt B R' (W.putObj (B + 1) (.loop R')) :=
  ⟨World.putObj_heap_same (Array.getElem?_eq_some_iff.1 h.lay).1, (World.putObj_heap_other (by omega)).trans h.dfr⟩
theorem LoopAt.keep {B : Nat} {R : Loop} {W W' : World} (h : LoopAt B R W) (hk : KeepsFrom B W W') : LoopAt B R W' :=
  ⟨hk.same _ _ (by omega) h.lay rfl, hk.same _ _ (Nat.le_refl _) h.dfr rfl⟩
theorem LoopAt.grown {B : Nat} {R : Loop} {W W' : World} {row : Option Nat} (h : LoopAt B R W) (hg : W.grownBy W' row) (hr : ∀ r, row = some r → ∃ o : Obj, W.heap[r]? = some o ∧ o.isWalk = true) : LoopAt B R W' :=
  ⟨(grownBy_keeps hg hr h.lay rfl).trans h.lay, (grownBy_keeps hg hr h.dfr rfl).trans h.dfr⟩

/-- how a round's body may be left -/
def told {α : Type} (B : Nat) (Kp : World → World → Prop) (I : List α → World → Prop) (Ix : Code → List α → World → Prop) (xs : List α) (W : World) : Exit → Act → World → Prop
  | .normal, _, W' => KeepsFrom B W W' ∧ Kp W W' ∧ I xs W'
  | .ret, _, W' => KeepsFrom B W W' ∧ Ix .ret xs W'
  | .exit id, _, W' => KeepsFrom B W W' ∧ Ix (.exit id) xs W'
  | .goto t, _, W' => KeepsFrom B W W' ∧ Ix (.goto t) xs W'
  | .panic _, _, _ => False
  | .outgrown, _, _ => False

/-- the iterator must leave alone what the loop's own record is not -/
theorem range_told_loop {α : Type} {g : Operand} {ps : Array Tmp} {assign body : Code} {Q : Exit → Act → World → Prop} {a : Act} {w : World} {gf : Nat} {lb : Array Value}
    (h1 : 1 ≤ n) (hg : a.eval g = .func (.func gf) #[] lb) (eg : ∀ args w, (callFunc gf args).run P w = .ok (.enter gf args) w)
    {encs : α → Array Value} {Kp : World → World → Prop} {T : List α → World → Prop} {S : List α → Prop} {N : Nat} {w0 : World} (hseq : Tells (n - 1) P gf lb encs Kp T S N w0)
    (hKt : ∀ {A B C : World}, Kp A B → Kp B C → Kp A C) (hKb : ∀ (W : World) (l : Nat) (R : Loop) (o' : Obj), w.heap.size ≤ l → W.heap[l]? = some (.loop R) → Kp W (W.putObj l o'))
    (hT : OwnFrom w.heap.size T) (hb0 : Below w0.heap.size w0 w) (hps : ∀ x, (encs x).size = ps.size)
    (I : List α → World → Prop) (Ix : Code → List α → World → Prop) (hI : OwnFrom w.heap.size I) (hIx : ∀ c, OwnFrom w.heap.size (Ix c)) (h0 : I [] w) (a₁ : α → Act)
    (hassign : ∀ (l : Nat) (x : α) (W : World) (K : Act → World → Prop), K (a₁ x) W →
      assign.wpIn (Fence.wide.inRound l) (n - 1 - 1) P (Exit.then K (fun _ _ _ => False)) { tmps := (ps.zip (encs x)).foldl (fun t (p, v) => t.setIfInBounds p v) a.tmps, defers := [] } W)
    (hbody : ∀ (l : Nat) (pre : List α) (x : α) (W : World), I pre W → T (pre ++ [x]) W → pre.length < N → body.wpIn (Fence.wide.inRound l) (n - 1 - 1) P (told w.heap.size Kp I Ix (pre ++ [x]) W) (a₁ x) W)
    (hdone : ∀ (D : Nat) (xs : List α) (W : World), w.heap.size ≤ D → S xs → T xs W → I xs W → W.heap[D]? = some (.deferred (some [])) → Q .normal { a with defers := { target := .collected D, args := #[] } :: a.defers } W)
    (hstop : ∀ (D : Nat) (c : Code) (pre : List α) (W : World), w.heap.size ≤ D → Ix c pre W → W.heap[D]? = some (.deferred (some [])) → c.wpIn Fence.wide n P Q { a with defers := { target := .collected D, args := #[] } :: a.defers } W) :
    (Code.rangeFunc g ps assign body).wpIn Fence.wide n P Q a w := by
  refine wpIn_rangeFunc fun fn hfn => ?_
  obtain ⟨R, hR⟩ : ∃ R : LoopState → Option Code → Loop, ∀ st pe, R st pe = { state := st, pending := pe, fn, tmps := a.tmps, params := ps, assign, body, defers := w.heap.size } := ⟨_, fun _ _ => rfl⟩
  obtain ⟨W1, hW1⟩ : ∃ W1, W1 = (w.alloc (.deferred (some []))).alloc (.loop (R .ready none)) := ⟨_, rfl⟩
  have hL1 : LoopAt w.heap.size (R .ready none) W1 := by
    rw [hW1]
    refine ⟨?_, (Below.heap_alloc _ _ _ (by simp)).trans (World.alloc_heap_new w _)⟩
    have := World.alloc_heap_new (w.alloc (.deferred (some []))) (.loop (R .ready none))
    rwa [World.size_alloc] at this
  have hB1 : Below w0.heap.size w0 W1 := by
    rw [hW1]
    exact hb0.trans ((((Below.refl _ w).alloc (Nat.le_refl _) _).alloc (by simp) _).mono hb0.size)
  have hs1 : w.heap.size + 2 = W1.heap.size := by rw [hW1]; simp
  have enter : (Instr.enterLoop fn a.tmps ps assign body Fence.wide.round).run P w = .ok (w.heap.size + 1, [{ target := .collected w.heap.size, args := #[] }]) W1 := by
    rw [hW1, hR]; exact run_enterLoop_outer _ _ _ _ _
  have resolved : (resolve a.eval (rangeCall g (w.heap.size + 1)) 0).run P W1 = .ok { target := .fn (.func gf) lb, args := #[.func (.yield (w.heap.size + 1)) #[] #[]] } W1 := by
    simp only [resolve, hg]
    simp [go_sem]
  refine ⟨_, _, W1, _, W1, gf, #[.func (.yield (w.heap.size + 1)) #[] #[]] ++ lb, W1, enter, resolved, fun _ _ => trivial, by simp [invoke, go_sem, eg], fun _ => h1, ?_⟩
  have own : ∀ {A : World} {row : Option Nat}, (∀ r, row = some r → W1.heap.size ≤ r ∧ ∃ o : Obj, A.heap[r]? = some o ∧ o.isWalk = true) → ∀ r, row = some r → w.heap.size ≤ r ∧ ∃ o : Obj, A.heap[r]? = some o ∧ o.isCells = false :=
    fun hr r e => by
      obtain ⟨hB, o, ho, hw⟩ := hr r e
      exact ⟨by omega, o, ho, Obj.not_cells_of_walk hw⟩
  refine (hseq (w.heap.size + 1) (fun pre W => I pre W ∧ LoopAt w.heap.size (R .ready none) W) (fun pre W => ∃ c, Ix c pre W ∧ LoopAt w.heap.size (R .done (some c)) W) W1 hB1
    (fun s A B row hs hg' hr => ⟨hI s A B row hs.1 hg' (own hr), hs.2.grown hg' fun r e => (hr r e).2⟩)
    (fun s A B row ⟨c, hc, hl⟩ hg' hr => ⟨c, hIx c s A B row hc hg' (own hr), hl.grown hg' fun r e => (hr r e).2⟩)
    (fun pre x W ⟨hi, hl⟩ hT1 hlen => ?_) ⟨by rw [hW1]; exact hI.alloc _ (hI.alloc _ h0), hL1⟩).mono ?_
  · have hy := run_yield (P := P) (args := encs x) hl.lay (by rw [hR]; exact hps x)
    rw [hR] at hy
    refine ⟨fn, _, assign, body, hy, roundIn_of_wpIn hfn (hassign _ x W _ ⟨_, run_beginRound hl.lay (by rw [hR]), ?_⟩)⟩
    have busy : { R .ready none with state := .busy } = R .busy none := by rw [hR, hR]
    rw [busy]
    have hl2 : LoopAt w.heap.size (R .busy none) (W.putObj (w.heap.size + 1) (.loop (R .busy none))) := hl.turn
    have hk2 : Kp W (W.putObj (w.heap.size + 1) (.loop (R .busy none))) := hKb _ _ _ _ (by omega) hl.lay
    refine wpIn_mono (hbody _ pre x _ (hI.putObj _ hi (by omega) hl.lay rfl) (hT.putObj _ hT1 (by omega) hl.lay rfl) hlen) fun e a3 W3 hp => ?_
    have fin : ∀ (jump : Option Code), LoopAt w.heap.size (R .busy none) W3 → (Instr.endRound (w.heap.size + 1) jump).run P W3 = .ok (.bool jump.isNone) (W3.putObj (w.heap.size + 1) (.loop (R (if jump.isNone then .ready else .done) jump))) := fun jump hl3 => by
      have := run_endRound (P := P) jump hl3.lay
      rw [hR] at this ⊢
      exact this
    have gone : ∀ c, KeepsFrom w.heap.size (W.putObj (w.heap.size + 1) (.loop (R .busy none))) W3 → Ix c (pre ++ [x]) W3 →
        ∃ v w', (Instr.endRound (w.heap.size + 1) (some c)).run P W3 = .ok v w' ∧ ((Ending.returned v = .returned (.bool true) ∧ (I (pre ++ [x]) w' ∧ LoopAt w.heap.size (R .ready none) w') ∧ Kp W w') ∨ (Ending.returned v = .returned (.bool false) ∧ ∃ c, Ix c (pre ++ [x]) w' ∧ LoopAt w.heap.size (R .done (some c)) w')) :=
      fun c hk hx => ⟨_, _, fin (some c) (hl2.keep hk), .inr ⟨rfl, c, (hIx c).putObj _ hx (by omega) (hl2.keep hk).lay rfl, (hl2.keep hk).turn⟩⟩
    cases e with
    | normal =>
      obtain ⟨hk, hkp, hi3⟩ := hp
      have hl3 := hl2.keep hk
      exact ⟨_, _, fin none hl3, .inl ⟨rfl, ⟨hI.putObj _ hi3 (by omega) hl3.lay rfl, hl3.turn⟩, hKt (hKt hk2 hkp) (hKb _ _ _ _ (by omega) hl3.lay)⟩⟩
    | ret => exact gone _ hp.1 hp.2
    | exit id => exact gone _ hp.1 hp.2
    | goto t => exact gone _ hp.1 hp.2
    | panic ch => exact hp.elim
    | outgrown => exact hp.elim
  · rintro e W2 ⟨⟨v, rfl⟩, ⟨xs, hS, hTx, hi, hl⟩ | ⟨pre, c, hi, hl⟩⟩
    · have he := run_endLoop (P := P) hl.lay (by rw [hR]; simp)
      rw [hR] at he
      exact ⟨none, _, he, hdone _ xs _ (Nat.le_refl _) hS (hT.putObj _ hTx (by omega) hl.lay rfl) (hI.putObj _ hi (by omega) hl.lay rfl) ((World.putObj_heap_other (by omega)).trans hl.dfr)⟩
    · have he := run_endLoop (P := P) hl.lay (by rw [hR]; simp)
      rw [hR] at he
      exact ⟨some c, _, he, hstop _ c pre _ (Nat.le_refl _) ((hIx c).putObj _ hi (by omega) hl.lay rfl) ((World.putObj_heap_other (by omega)).trans hl.dfr)⟩


theorem range_told {α : Type} {g : Operand} {ps : Array Tmp} {assign body : Code} {Q : Exit → Act → World → Prop} {a : Act} {w : World} {gf : Nat} {lb : Array Value}
    (h1 : 1 ≤ n) (hg : a.eval g = .func (.func gf) #[] lb) (eg : ∀ args w, (callFunc gf args).run P w = .ok (.enter gf args) w)
    {encs : α → Array Value} {Kp : World → World → Prop} {T : List α → World → Prop} {S : List α → Prop} {N : Nat} {w0 : World} (hseq : Tells (n - 1) P gf lb encs Kp T S N w0)
    (hKt : ∀ {A B C : World}, Kp A B → Kp B C → Kp A C) (hKb : ∀ (W : World) (l : Nat) (o o' : Obj), w.heap.size ≤ l → W.heap[l]? = some o → o.isCells = false → Kp W (W.putObj l o'))
    (hT : OwnFrom w.heap.size T) (hb0 : Below w0.heap.size w0 w) (hps : ∀ x, (encs x).size = ps.size)
    (I : List α → World → Prop) (Ix : Code → List α → World → Prop) (hI : OwnFrom w.heap.size I) (hIx : ∀ c, OwnFrom w.heap.size (Ix c)) (h0 : I [] w) (a₁ : α → Act)
    (hassign : ∀ (l : Nat) (x : α) (W : World) (K : Act → World → Prop), K (a₁ x) W →
      assign.wpIn (Fence.wide.inRound l) (n - 1 - 1) P (Exit.then K (fun _ _ _ => False)) { tmps := (ps.zip (encs x)).foldl (fun t (p, v) => t.setIfInBounds p v) a.tmps, defers := [] } W)
    (hbody : ∀ (l : Nat) (pre : List α) (x : α) (W : World), I pre W → T (pre ++ [x]) W → pre.length < N → body.wpIn (Fence.wide.inRound l) (n - 1 - 1) P (told w.heap.size Kp I Ix (pre ++ [x]) W) (a₁ x) W)
    (hdone : ∀ (D : Nat) (xs : List α) (W : World), w.heap.size ≤ D → S xs → T xs W → I xs W → W.heap[D]? = some (.deferred (some [])) → Q .normal { a with defers := { target := .collected D, args := #[] } :: a.defers } W)
    (hstop : ∀ (D : Nat) (c : Code) (pre : List α) (W : World), w.heap.size ≤ D → Ix c pre W → W.heap[D]? = some (.deferred (some [])) → c.wpIn Fence.wide n P Q { a with defers := { target := .collected D, args := #[] } :: a.defers } W) :
    (Code.rangeFunc g ps assign body).wpIn Fence.wide n P Q a w :=
  range_told_loop h1 hg eg hseq hKt (fun W l _ o' hl h => hKb W l _ o' hl h rfl) hT hb0 hps I Ix hI hIx h0 a₁ hassign hbody hdone hstop

end Go.Proofs.YtpbnjibomdilhaaGreatDoor.Gph
