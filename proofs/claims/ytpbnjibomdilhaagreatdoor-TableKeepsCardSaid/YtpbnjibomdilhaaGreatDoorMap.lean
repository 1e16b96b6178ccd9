/- only, refuses, by their contracts. A range over a function whose variable is boxed anew in each round. -/
import Derived.Test.YtpbnjibomdilhaaGreatDoorMao
import Derived.Test.YtpbnjibomdilhaaGreatDoorMal
namespace Go.Proofs.YtpbnjibomdilhaaGreatDoor.Job
open Go.RowKit Go.Maps

theorem grown_below {w w' : World} (h : Below w.heap.size w w') (row : Option Nat) : w.grownBy w' row := ⟨h.os, h.tape, h.output, h.size, fun k hk _ => h.block k hk⟩
/-- of all that have come none is another one of that name -/
def MissJ (L : List J) (j : J) (left : Lit → Bool) : Prop := ∀ z m, findJ L z = some m → left (.int .u64 z) = false → hitJ m j = false
theorem miss_all {L : List J} {j : J} {left : Lit → Bool} (hr : (L.map (·.id)).Pairwise (· < ·)) (h : MissJ L j left) (hl : ∀ kl, left kl = false) : dupJ L j = false := by
  unfold dupJ
  rw [List.any_eq_false]
  intro m hm
  have := h m.id m (rise_find hr hm) (hl _)
  unfold hitJ at this
  rw [this]; simp
theorem hit_dup {L : List J} {j m : J} (hm : m ∈ L) (h : hitJ m j = true) : dupJ L j = true := by
  unfold dupJ
  rw [List.any_eq_true]
  exact ⟨m, hm, h⟩
theorem miss_step {L : List J} {j m : J} {left : Lit → Bool} {x : Int} (h : MissJ L j left) (hf : findJ L x = some m) (hm : hitJ m j = false) : MissJ L j (fun z => left z && !z.sameKey (.int .u64 x)) := by
  intro z n hz hl
  by_cases e : z = x
  · subst e; rw [hf] at hz; cases hz; exact hm
  · refine h z n hz ?_
    have : (Lit.int .u64 z).sameKey (.int .u64 x) = false := by simp [Lit.sameKey, e]
    simpa [this] using hl

set_option maxRecDepth 100000 in
set_option maxHeartbeats 2000000 in
theorem only_any {w : World} {k b : Nat} {L : List J} {last : Int} (h : TabAt w k b L last) (j : J) (B : Nat) (hB : w.heap[B]? = some (jobj j)) :
    Calls Tryz.prog 41 #[.pointer (some ⟨k, 0, none⟩), .func (.func 42) #[] #[.pointer (some ⟨B, 0, none⟩)]] w fun e w' => ∃ m : J, e = .returned (.tuple #[m.val, .bool (dupJ L j)]) ∧ Below w.heap.size w w' := by
  obtain ⟨w0, hw0⟩ : ∃ W, W = w.alloc (.cells zeroC 29) := ⟨_, rfl⟩
  have hb0 : Below w.heap.size w w0 := by rw [hw0]; exact (Below.refl _ _).alloc (Nat.le_refl _) _
  have hz0 : w0.heap[w.heap.size]? = some (jobj zeroJ) := by rw [hw0]; exact heap_alloc_new w _
  have h0 := h.below hb0
  have hB0 := (hb0.block _ (lt_of_block hB)).trans hB
  obtain ⟨c0, -⟩ := h0.cells
  obtain ⟨D, hown, hH⟩ := h0.map
  rw [hw0] at c0
  have HHB := Lib.hid hH
  have HR := Lib.hid h0.rise
  have HB := Lib.hid hB0
  have HW0 := Lib.hid hw0
  have HB0 := Lib.hid hb0
  have HZ0 := Lib.hid hz0
  obtain ⟨d, hd⟩ : ∃ d, d = dupJ L j := ⟨_, rfl⟩
  rw [← hd]
  have HD := Lib.hid hd
  clear h h0 hB hB0 hH hw0 hb0 hz0 hd
  go_enter Tryz.func41, Tryz.ntmps41
  go_wp2_with (first
    | (at_range; rw [← HW0.out]; refine wpList_range_own _ rfl _ 53 rfl 26 29 Gph.keyU_law Tryz.underlying53 jobElem b (Maps.size D) D rfl hown ?_; intro w1 hrg0 hg0 hs0)
    | go_in)
  have HB1 := Lib.hid (show Below w0.heap.size w0 w1 from ⟨hg0.os, hg0.tape, hg0.output, hg0.size, fun i hi => hg0.block i hi (by simp)⟩)
  have HOWN := Lib.hid hown
  clear c0 hg0 hs0 hown
  go_frame
  go_loopw [7] (fun _ wr => ∃ (left : Lit → Bool) (cnt : Nat), wr.ranges Tryz.prog 26 jobElem b w0.heap.size (Maps.size D) D left cnt ∧ MissJ L j left ∧ Below w0.heap.size w0 wr)
    (fun _ wr => wr.rangeLeft b w0.heap.size)
  case atStart => exact ⟨_, _, hrg0, (fun z m hz hl => by rw [HHB.out.has, hz] at hl; cases hl), HB1.out⟩
  case round =>
    obtain ⟨left, cnt, hrg, hmiss, hbr⟩ := hrel
    go_wp2_with (first
      | (at_next; refine wpList_next_ranges _ rfl _ rfl 26 Gph.keyU_law jobElem (Value.int .u64) Value.agg (fun key kl hk => by obtain ⟨x, hx, _⟩ := Maps.keyOf_int_inv Tryz.underlying26 hk; exact ⟨x, hx⟩) (fun v y hv => by obtain ⟨cs, rfl, _⟩ := jobElem_inv hv; exact ⟨cs, rfl⟩) b w0.heap.size (Maps.size D) _ _ _ rfl hrg ?_ ?_)
      | go_in)
    · intro hc0 hl0
      have hdd := miss_all HR.out hmiss hl0
      rw [← HD.out] at hdd
      have HDD := Lib.hid hdd
      have hzr := (hbr.block _ (lt_of_block HZ0.out)).trans HZ0.out
      have HZR := Lib.hid hzr
      have HBR := Lib.hid hbr
      clear hdd hzr hbr hmiss hrg hc0 hl0 hrg0
      go_wp2_with (refine wpList_store_row rfl 29 _ _ rfl w.heap.size zeroC rfl rfl 29 zeroJ.cells HZR.out (by kernel_rfl) rfl (by kernel_rfl) ?_)
      obtain ⟨⟨d0, d1, d2, d3, d4, d5⟩, d6, d7, d8, d9, d10, d11⟩ := jobj_cells (setJob zeroJ HZR.out)
      rw [show zeroJ.cs = zeroC from rfl] at d0 d1 d2 d3 d4 d5 d6 d7 d8 d9 d10 d11
      refine bodyPost_ret (v := .tuple #[.agg zeroC, .bool false]) (by simp [results, Tryz.results41, go_sem, d0, d1, d2, d3, d4, d5, d6, d7, d8, d9, d10, d11, zeroJ, emp]) rfl ?_
      exact ⟨zeroJ, by rw [HDD.out]; rfl, (HB0.out.trans (HBR.out.mono HB0.out.size)).trans (below_row _ _ (Nat.le_refl _))⟩
    · intro x cc kl yd yp w2 cnt2 hkey hlk hv hat hrg2 hlt hg2 hs2 hen
      obtain ⟨x', ex, rfl, hxw⟩ := Maps.keyOf_int_inv Tryz.underlying26 hkey
      obtain rfl : x = x' := by simpa using ex
      obtain ⟨m, hm⟩ : ∃ m, findJ L x = some m := Option.isSome_iff_exists.1 (by rw [← HHB.out.has]; exact has_true_of_atKey hat)
      obtain rfl : cc = m.cells := by
        obtain ⟨cs, ec, e⟩ := jobElem_inv hv
        have h1 := (HHB.out.at_ x m hm (.nil)).symm.trans (hat .nil)
        have h2 : yd = .held (.agg cs) := congrArg Prod.fst e
        rw [h2] at h1
        simp only [DataW.held.injEq, J.val, Value.agg.injEq] at h1
        rw [h1]
        simpa using ec
      have hb2 : Below w0.heap.size w0 w2 := hbr.grown hg2 hbr.size (fun j hj => by cases hj; exact Nat.le_refl _)
      have hb3 : Below w2.heap.size w2 (w2.alloc (.cells m.cs 29)) := (Below.refl _ _).alloc (Nat.le_refl _) _
      have HHIT := Lib.hid (hit_any m j B (w2.alloc (.cells m.cs 29)) (((hb2.trans (hb3.mono hb2.size)).block _ (lt_of_block HB.out)).trans HB.out))
      have HMS := Lib.hid (fun hf => miss_step hmiss hm hf)
      have HMD := Lib.hid (fun hf => hit_dup (findJ_mem hm).1 (j := j) hf)
      have HB2 := Lib.hid hb2
      have HRG2 := Lib.hid hrg2
      have HLT := Lib.hid hlt
      have HRG := Lib.hid hrg
      clear hs2 hb2 hb3 hrg2 hlt hlk hat hrg hm hkey hv hmiss hbr hg2
      unfold J.cells jcells at hen ⊢
      unfold J.val J.cells jcells at HHIT
      go_wp2_with fail
      refine HHIT.out.mono ?_
      rintro e w3 ⟨rfl, hb⟩
      have hb23 : Below w2.heap.size w2 w3 := ((Below.refl _ _).alloc (Nat.le_refl _) _).trans (hb.mono (by simp))
      have hm3 : w3.heap[w2.heap.size]? = some (jobj m) := (hb.block _ (by simp)).trans (heap_alloc_new w2 _)
      have hb03 : Below w0.heap.size w0 w3 := HB2.out.trans (hb23.mono HB2.out.size)
      have hz3 := (hb03.block _ (lt_of_block HZ0.out)).trans HZ0.out
      have hrg3 := HRG2.out.kept (grown_below hb23 none) (by simp) (by simp)
      obtain ⟨⟨c0, c1, c2, c3, c4, c5⟩, c6, c7, c8, c9, c10, c11⟩ := jobj_cells hm3
      have HB3 := Lib.hid hb03
      have HZ3 := Lib.hid hz3
      have HRG3 := Lib.hid hrg3
      clear hb hb23 hm3 hb03 hz3 hrg3 hen hrg0 HHIT
      cases hh : hitJ m j with
      | true =>
        have hdd := HMD.out hh
        rw [← HD.out] at hdd
        have HDD := Lib.hid hdd
        clear hdd hh
        go_wp2_with (refine wpList_store_row rfl 29 _ _ rfl w.heap.size m.cs rfl rfl 29 zeroJ.cells HZ3.out (by kernel_rfl) rfl (by kernel_rfl) ?_)
        obtain ⟨⟨d0, d1, d2, d3, d4, d5⟩, d6, d7, d8, d9, d10, d11⟩ := jobj_cells (setJob m HZ3.out)
        refine bodyPost_ret (v := .tuple #[m.val, .bool true]) (by simp [results, Tryz.results41, go_sem, d0, d1, d2, d3, d4, d5, d6, d7, d8, d9, d10, d11, J.val, J.cells, jcells]) rfl ?_
        exact ⟨m, by rw [HDD.out], (HB0.out.trans (HB3.out.mono HB0.out.size)).trans (below_row _ _ (Nat.le_refl _))⟩
      | false =>
        have HMS2 := Lib.hid (HMS.out hh)
        clear hh
        go_wp2
        go_roundw
        case rel => exact ⟨_, cnt2, HRG3.out, HMS2.out, HB3.out⟩
        case measure => rw [HRG3.out.left_eq, HRG.out.left_eq]; exact HLT.out

/-- the tables that job.May reads -/
structure Kit (w : World) : Prop where
  tabs : TabsOn w
  names : NamesOn w
theorem Kit.next {w w' : World} (h : Kit w) (hb : Below w.heap.size w w') : Kit w' := ⟨h.tabs.next hb, h.names.next hb⟩

set_option maxRecDepth 100000 in
set_option maxHeartbeats 2000000 in
theorem refuses_any {w : World} {k b : Nat} {L : List J} {last : Int} (h : TabAt w k b L last) (hk : Kit w) (j : J) :
    Calls Tryz.prog 25 #[.pointer (some ⟨k, 0, none⟩), j.val] w fun e w' => e = .returned (.int .i64 (refJ L j)) ∧ Below w.heap.size w w' := by
  obtain ⟨w0, hw0⟩ : ∃ W, W = w.alloc (.cells j.cs 29) := ⟨_, rfl⟩
  have hb0 : Below w.heap.size w w0 := by rw [hw0]; exact (Below.refl _ _).alloc (Nat.le_refl _) _
  have hj0 : w0.heap[w.heap.size]? = some (jobj j) := by rw [hw0]; exact heap_alloc_new w _
  have h0 := h.below hb0
  have HM := Lib.hid (mayJ_any j w0 (hk.next hb0).tabs (hk.next hb0).names)
  have HT := Lib.hid h0
  have HJ := Lib.hid hj0
  have HW0 := Lib.hid hw0
  have HB0 := Lib.hid hb0
  obtain ⟨r, hr⟩ : ∃ r, r = refJ L j := ⟨_, rfl⟩
  rw [← hr]
  have HR := Lib.hid hr
  clear h hk h0 hj0 hw0 hb0 hr
  unfold J.val J.cells jcells at HM ⊢
  go_enter Tryz.func25, Tryz.ntmps25
  go_wp2_with fail
  rw [← HW0.out]
  refine HM.out.mono ?_
  rintro e w1 ⟨rfl, hb1⟩
  by_cases he : j.err = 0
  · have hrr : r = if dupJ L j then 150 else 0 := by rw [HR.out]; unfold refJ; rw [if_neg (by simp [he])]
    rw [he]
    have hj1 := (hb1.block _ (lt_of_block HJ.out)).trans HJ.out
    have HO := Lib.hid (only_any (HT.out.below hb1) j w.heap.size hj1)
    have HB1 := Lib.hid (HB0.out.trans (hb1.mono HB0.out.size))
    have HRR := Lib.hid hrr
    clear he hj1 hb1 hrr HM HT HJ
    go_wp2_with fail
    refine HO.out.mono ?_
    rintro e w2 ⟨m, rfl, hb2⟩
    have HB2 := Lib.hid (HB1.out.trans (hb2.mono HB1.out.size))
    clear hb2 HO
    unfold J.val J.cells jcells
    cases hd : dupJ L j with
    | true =>
      rw [hd] at HRR
      clear hd
      go_wp2
      go_ret
      exact ⟨by rw [HRR.out]; rfl, HB2.out.alloc HB2.out.size _⟩
    | false =>
      rw [hd] at HRR
      clear hd
      go_wp2
      go_ret
      exact ⟨by rw [HRR.out]; rfl, HB2.out.alloc HB2.out.size _⟩
  · have hrr : r = j.err := by rw [HR.out]; unfold refJ; rw [if_pos he]
    rw [← hrr] at he ⊢
    have hbn : (r != 0) = true := by simp [he]
    have hbe : (r == 0) = false := by simp [he]
    have HB1 := Lib.hid (HB0.out.trans (hb1.mono HB0.out.size))
    clear he hrr hb1 HM HT HJ
    go_wp2
    go_ret
    exact ⟨rfl, HB1.out⟩

end Go.Proofs.YtpbnjibomdilhaaGreatDoor.Job

namespace Go.Proofs.YtpbnjibomdilhaaGreatDoor.Gph
open Go.RowKit
variable {n : Nat} {P : Program}

/-- a range over a function whose variable is boxed anew in each round ('o x': the block): the round's frame knows its number -/
theorem range_told_box {α : Type} {g : Operand} {ps : Array Tmp} {assign body : Code} {Q : Exit → Act → World → Prop} {a : Act} {w : World} {gf : Nat} {lb : Array Value}
    (h1 : 1 ≤ n) (hg : a.eval g = .func (.func gf) #[] lb) (eg : ∀ args w, (callFunc gf args).run P w = .ok (.enter gf args) w)
    {encs : α → Array Value} {Kp : World → World → Prop} {T : List α → World → Prop} {S : List α → Prop} {N : Nat} {w0 : World} (hseq : Tells (n - 1) P gf lb encs Kp T S N w0)
    (hKt : ∀ {A B C : World}, Kp A B → Kp B C → Kp A C) (hKb : ∀ (W : World) (l : Nat) (R : Loop) (o' : Obj), w.heap.size ≤ l → W.heap[l]? = some (.loop R) → Kp W (W.putObj l o'))
    (o : α → Obj) (hKa : ∀ (W : World) (ob : Obj), w.heap.size ≤ W.heap.size → Kp W (W.alloc ob)) (hT : OwnFrom w.heap.size T) (hb0 : Below w0.heap.size w0 w) (hps : ∀ x, (encs x).size = ps.size)
    (I : List α → World → Prop) (Ix : Code → List α → World → Prop) (hI : OwnFrom w.heap.size I) (hIx : ∀ c, OwnFrom w.heap.size (Ix c)) (h0 : I [] w) (a₁ : α → Nat → Act)
    (hassign : ∀ (l : Nat) (x : α) (W : World) (K : Act → World → Prop), K (a₁ x W.heap.size) (W.alloc (o x)) →
      assign.wpIn (Fence.wide.inRound l) (n - 1 - 1) P (Exit.then K (fun _ _ _ => False)) { tmps := (ps.zip (encs x)).foldl (fun t (p, v) => t.setIfInBounds p v) a.tmps, defers := [] } W)
    (hbody : ∀ (l : Nat) (pre : List α) (x : α) (W : World) (k : Nat), I pre W → T (pre ++ [x]) W → pre.length < N → w.heap.size ≤ k → W.heap[k]? = some (o x) → body.wpIn (Fence.wide.inRound l) (n - 1 - 1) P (told w.heap.size Kp I Ix (pre ++ [x]) W) (a₁ x k) W)
    (hdone : ∀ (D : Nat) (xs : List α) (W : World), w.heap.size ≤ D → S xs → T xs W → I xs W → W.heap[D]? = some (.deferred (some [])) → Q .normal { a with defers := { target := .collected D, args := #[] } :: a.defers } W)
    (hstop : ∀ (D : Nat) (c : Code) (pre : List α) (W : World), w.heap.size ≤ D → Ix c pre W → W.heap[D]? = some (.deferred (some [])) → c.wpIn Fence.wide n P Q { a with defers := { target := .collected D, args := #[] } :: a.defers } W) :
    (Code.rangeFunc g ps assign body).wpIn Fence.wide n P Q a w := by
  refine wpIn_rangeFunc fun fn hfn => ?_
  obtain ⟨R, hR⟩ : ∃ R : LoopState → Option Code → Loop, ∀ st pe, R st pe = { state := st, pending := pe, fn, tmps := a.tmps, params := ps, assign, body, defers := w.heap.size } := ⟨_, fun _ _ => rfl⟩
  obtain ⟨W1, hW1⟩ : ∃ W1, W1 = (w.alloc (.deferred (some []))).alloc (.loop (R .ready none)) := ⟨_, rfl⟩
  have hL1 : LoopAt w.heap.size (R .ready none) W1 := by
    rw [hW1]
    refine ⟨?_, (Below.heap_alloc _ _ _ (by simp)).trans (World.alloc_heap_new w _)⟩
    have := World.alloc_heap_new (w.alloc (.deferred (some []))) (.loop (R .ready none))
    rwa [World.size_alloc] at this
  have hB1 : Below w0.heap.size w0 W1 := by
    rw [hW1]
    exact hb0.trans ((((Below.refl _ w).alloc (Nat.le_refl _) _).alloc (by simp) _).mono hb0.size)
  have hs1 : w.heap.size + 2 = W1.heap.size := by rw [hW1]; simp
  have enter : (Instr.enterLoop fn a.tmps ps assign body Fence.wide.round).run P w = .ok (w.heap.size + 1, [{ target := .collected w.heap.size, args := #[] }]) W1 := by
    rw [hW1, hR]; exact run_enterLoop_outer _ _ _ _ _
  have resolved : (resolve a.eval (rangeCall g (w.heap.size + 1)) 0).run P W1 = .ok { target := .fn (.func gf) lb, args := #[.func (.yield (w.heap.size + 1)) #[] #[]] } W1 := by
    simp only [resolve, hg]
    simp [go_sem]
  refine ⟨_, _, W1, _, W1, gf, #[.func (.yield (w.heap.size + 1)) #[] #[]] ++ lb, W1, enter, resolved, fun _ _ => trivial, by simp [invoke, go_sem, eg], fun _ => h1, ?_⟩
  have own : ∀ {A : World} {row : Option Nat}, (∀ r, row = some r → W1.heap.size ≤ r ∧ ∃ o : Obj, A.heap[r]? = some o ∧ o.isWalk = true) → ∀ r, row = some r → w.heap.size ≤ r ∧ ∃ o : Obj, A.heap[r]? = some o ∧ o.isCells = false :=
    fun hr r e => by
      obtain ⟨hB, o, ho, hw⟩ := hr r e
      exact ⟨by omega, o, ho, Obj.not_cells_of_walk hw⟩
  refine (hseq (w.heap.size + 1) (fun pre W => I pre W ∧ LoopAt w.heap.size (R .ready none) W) (fun pre W => ∃ c, Ix c pre W ∧ LoopAt w.heap.size (R .done (some c)) W) W1 hB1
    (fun s A B row hs hg' hr => ⟨hI s A B row hs.1 hg' (own hr), hs.2.grown hg' fun r e => (hr r e).2⟩)
    (fun s A B row ⟨c, hc, hl⟩ hg' hr => ⟨c, hIx c s A B row hc hg' (own hr), hl.grown hg' fun r e => (hr r e).2⟩)
    (fun pre x W ⟨hi, hl⟩ hT1 hlen => ?_) ⟨by rw [hW1]; exact hI.alloc _ (hI.alloc _ h0), hL1⟩).mono ?_
  · have hy := run_yield (P := P) (args := encs x) hl.lay (by rw [hR]; exact hps x)
    rw [hR] at hy
    have hla : LoopAt w.heap.size (R .ready none) (W.alloc (o x)) := hl.grown (World.grownBy_alloc W (o x) none) (fun r e => by cases e)
    have hlW : w.heap.size + 1 < W.heap.size := (Array.getElem?_eq_some_iff.1 hl.lay).1
    have hia : I pre (W.alloc (o x)) := hI.alloc _ hi
    have hTa : T (pre ++ [x]) (W.alloc (o x)) := hT.alloc _ hT1
    refine ⟨fn, _, assign, body, hy, roundIn_of_wpIn hfn (hassign _ x W _ ⟨_, run_beginRound hla.lay (by rw [hR]), ?_⟩)⟩
    have busy : { R .ready none with state := .busy } = R .busy none := by rw [hR, hR]
    rw [busy]
    have hl2 : LoopAt w.heap.size (R .busy none) ((W.alloc (o x)).putObj (w.heap.size + 1) (.loop (R .busy none))) := hla.turn
    have hk2 : Kp W ((W.alloc (o x)).putObj (w.heap.size + 1) (.loop (R .busy none))) := hKt (hKa W (o x) (by omega)) (hKb _ _ _ _ (by omega) hla.lay)
    refine wpIn_mono (hbody _ pre x _ W.heap.size (hI.putObj _ hia (by omega) hla.lay rfl) (hT.putObj _ hTa (by omega) hla.lay rfl) hlen (by omega) ((World.putObj_heap_other (by omega)).trans (heap_alloc_new W (o x)))) fun e a3 W3 hp => ?_
    have fin : ∀ (jump : Option Code), LoopAt w.heap.size (R .busy none) W3 → (Instr.endRound (w.heap.size + 1) jump).run P W3 = .ok (.bool jump.isNone) (W3.putObj (w.heap.size + 1) (.loop (R (if jump.isNone then .ready else .done) jump))) := fun jump hl3 => by
      have := run_endRound (P := P) jump hl3.lay
      rw [hR] at this ⊢
      exact this
    have gone : ∀ c, KeepsFrom w.heap.size ((W.alloc (o x)).putObj (w.heap.size + 1) (.loop (R .busy none))) W3 → Ix c (pre ++ [x]) W3 →
        ∃ v w', (Instr.endRound (w.heap.size + 1) (some c)).run P W3 = .ok v w' ∧ ((Ending.returned v = .returned (.bool true) ∧ (I (pre ++ [x]) w' ∧ LoopAt w.heap.size (R .ready none) w') ∧ Kp W w') ∨ (Ending.returned v = .returned (.bool false) ∧ ∃ c, Ix c (pre ++ [x]) w' ∧ LoopAt w.heap.size (R .done (some c)) w')) :=
      fun c hk hx => ⟨_, _, fin (some c) (hl2.keep hk), .inr ⟨rfl, c, (hIx c).putObj _ hx (by omega) (hl2.keep hk).lay rfl, (hl2.keep hk).turn⟩⟩
    cases e with
    | normal =>
      obtain ⟨hk, hkp, hi3⟩ := hp
      have hl3 := hl2.keep hk
      exact ⟨_, _, fin none hl3, .inl ⟨rfl, ⟨hI.putObj _ hi3 (by omega) hl3.lay rfl, hl3.turn⟩, hKt (hKt hk2 hkp) (hKb _ _ _ _ (by omega) hl3.lay)⟩⟩
    | ret => exact gone _ hp.1 hp.2
    | exit id => exact gone _ hp.1 hp.2
    | goto t => exact gone _ hp.1 hp.2
    | panic ch => exact hp.elim
    | outgrown => exact hp.elim
  · rintro e W2 ⟨⟨v, rfl⟩, ⟨xs, hS, hTx, hi, hl⟩ | ⟨pre, c, hi, hl⟩⟩
    · have he := run_endLoop (P := P) hl.lay (by rw [hR]; simp)
      rw [hR] at he
      exact ⟨none, _, he, hdone _ xs _ (Nat.le_refl _) hS (hT.putObj _ hTx (by omega) hl.lay rfl) (hI.putObj _ hi (by omega) hl.lay rfl) ((World.putObj_heap_other (by omega)).trans hl.dfr)⟩
    · have he := run_endLoop (P := P) hl.lay (by rw [hR]; simp)
      rw [hR] at he
      exact ⟨some c, _, he, hstop _ c pre _ (Nat.le_refl _) ((hIx c).putObj _ hi (by omega) hl.lay rfl) ((World.putObj_heap_other (by omega)).trans hl.dfr)⟩

end Go.Proofs.YtpbnjibomdilhaaGreatDoor.Gph
