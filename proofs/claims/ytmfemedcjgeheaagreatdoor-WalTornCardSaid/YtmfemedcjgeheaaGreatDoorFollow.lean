/- read's closure, by its contract: an entry behind the others. -/
import Derived.Test.YtmfemedcjgeheaaGreatDoorWalRow
import Derived.Deep.LoopGhost
import Derived.BigFrame
namespace Go.Proofs.YtmfemedcjgeheaaGreatDoor
open Go.RowKit Go.Maps Dsk Wl

theorem info_ent : (Tryz.prog.info? 55).map (fun i => (i.zero, i.size, i.bytes)) = some (some (.agg #[.int .u64 0, .int .u64 0, .slice none 0 0]), 3, 40) := by kernel_rfl

/-- the box of the entries: they lie behind it -/
structure Boxed (w : World) (B eb : Nat) (es : List Ent) : Prop where
  at_ : ∃ v, w.heap[eb]? = some (.cells #[v] 36 (0, 0)) ∧ EntRow w B es v

/-- what a call leaves: of what is below, and of bytes and segments, nothing has turned -/
structure Turns (B eb : Nat) (w w' : World) : Prop where
  os : w'.os = w.os
  tape : w'.tape = w.tape
  output : w'.output = w.output
  size : w.heap.size ≤ w'.heap.size
  block : ∀ k, k < w.heap.size → k ≠ eb → (∀ cs, B ≤ k → w.heap[k]? ≠ some (.cells cs 55 (0, 0))) → w'.heap[k]? = w.heap[k]?

theorem Turns.of_below {B eb : Nat} {w w' : World} (h : Below w.heap.size w w') : Turns B eb w w' := ⟨h.os, h.tape, h.output, h.size, fun k hk _ _ => h.block k hk⟩
theorem Turns.below {B eb : Nat} {w w' : World} (h : Turns B eb w w') (hB : B ≤ w.heap.size) (he : B ≤ eb) : Below B w w' := ⟨h.os, h.tape, h.output, h.size, fun k hk => h.block k (by omega) (by omega) (fun cs hb => absurd hb (by omega))⟩
theorem Turns.typed {B eb k : Nat} {w w' : World} {cs : Array Value} {t : TypeId} {fr : Nat × Nat} (h : Turns B eb w w') (hk : w.heap[k]? = some (.cells cs t fr)) (ht : t ≠ 55) (hne : k ≠ eb) : w'.heap[k]? = w.heap[k]? :=
  h.block k (lt_of_block hk) hne fun cs' _ h' => by rw [hk] at h'; injection h' with h1; injection h1 with _ h2; exact ht h2
theorem Turns.trans {B eb : Nat} {w w1 w2 : World} (h : Turns B eb w w1) (k : Turns B eb w1 w2) : Turns B eb w w2 :=
  ⟨k.os.trans h.os, k.tape.trans h.tape, k.output.trans h.output, Nat.le_trans h.size k.size, fun j hj hne ht => by
    have h1 := h.block j hj hne ht
    exact (k.block j (Nat.lt_of_lt_of_le hj h.size) hne (fun cs hb => by rw [h1]; exact ht cs hb)).trans h1⟩
theorem Turns.set {B eb : Nat} (w : World) (v : Value) : Turns B eb w (w.setCell ⟨eb, 0, none⟩ v) :=
  ⟨rfl, rfl, rfl, by simp [World.setCell], fun k _ hk _ => Below.heap_setCell _ _ _ _ fun e => hk (by rw [e])⟩
theorem Turns.grown {B eb : Nat} {w w' : World} {size n : Nat} {v : Value} {xs : List Value} (hr : w.ownsRow B 55 size v n xs) (hg : w.grownBy w' v.ownBlock) : Turns B eb w w' :=
  ⟨hg.os, hg.tape, hg.output, hg.size, fun k hk _ ht => hg.block k hk fun e => by
    rcases hr.2 with ⟨rfl, _⟩ | ⟨g, cap, cur, rfl, hb, hgg, _⟩
    · cases e
    · have e1 : k = g := by simpa [Value.ownBlock] using e
      subst e1
      exact ht cur hb hgg⟩
theorem Turns.row {B eb : Nat} {w w' : World} {B' : Nat} {zs : List Int} {u : Value} (h : Turns B eb w w') (hr : Body w B' zs u) {cs : Array Value} {fr : Nat × Nat} (hb : w.heap[eb]? = some (.cells cs 36 fr)) : Body w' B' zs u :=
  hr.keep fun k cs' fr' _ hk e => h.typed hk (by decide) fun e2 => by subst e2; exact hr.off hb (by decide) e
theorem Boxed.box {w : World} {B eb : Nat} {es : List Ent} (h : Boxed w B eb es) : ∃ cs, w.heap[eb]? = some (.cells cs 36 (0, 0)) := by
  obtain ⟨v, hb, _⟩ := h.at_
  exact ⟨_, hb⟩
theorem Boxed.below {w w' : World} {B eb : Nat} {es : List Ent} (h : Boxed w B eb es) (hb : Below w.heap.size w w') : Boxed w' B eb es := by
  obtain ⟨v, h1, h2⟩ := h.at_
  exact ⟨v, (hb.block eb (lt_of_block h1)).trans h1, h2.below hb⟩
theorem Boxed.cell {w : World} {B eb : Nat} {es : List Ent} (h : Boxed w B eb es) : ∃ a c, w.cell? ⟨eb, 0, none⟩ = some (.slice a es.length c) ∧ EntRow w B es (.slice a es.length c) := by
  obtain ⟨v, h1, h2⟩ := h.at_
  obtain ⟨a, c, rfl, _⟩ := h2.shape
  exact ⟨a, c, by rw [cell_of_row w eb 0 _ _ _ h1]; rfl, h2⟩
/-- a new slice in the box -/
theorem Boxed.put {w : World} {B eb : Nat} {es : List Ent} {cs : Array Value} {v : Value} (hb : w.heap[eb]? = some (.cells cs 36 (0, 0))) (hc : cs.size = 1) (hr : EntRow w B es v) : Boxed (w.setCell ⟨eb, 0, none⟩ v) B eb es := by
  refine ⟨v, ?_, hr.keep (fun k cs' _ hk _ => ?_) (fun k cs' fr' _ hk => ?_)⟩
  · rw [cells_set hb 0 v]
    obtain ⟨x, rfl⟩ : ∃ x, cs = #[x] := Array.size_eq_one_iff.1 hc
    rfl
  · refine Below.heap_setCell _ _ _ _ fun e => ?_
    subst e
    rw [hb] at hk
    injection hk with h1
    injection h1 with _ h2
    exact absurd h2 (by decide)
  · refine Below.heap_setCell _ _ _ _ fun e => ?_
    subst e
    rw [hb] at hk
    injection hk with h1
    injection h1 with _ h2
    exact absurd h2 (by decide)

/-- the entry's own block -/
def EBox (w : World) (b : Nat) (e : Ent) (a : Option Addr) (c : Nat) : Prop := w.heap[b]? = some (.cells #[.int .u64 (e.ix : Int), .int .u64 (e.term : Int), .slice a e.body.length c] 55 (0, 0))
theorem EBox.cells {w : World} {b : Nat} {e : Ent} {a : Option Addr} {c : Nat} (h : EBox w b e a c) : w.cell? ⟨b, 0, none⟩ = some (.int .u64 (e.ix : Int)) ∧ w.cell? ⟨b, 1, none⟩ = some (.int .u64 (e.term : Int)) ∧ w.cell? ⟨b, 2, none⟩ = some (.slice a e.body.length c) := by
  refine ⟨?_, ?_, ?_⟩ <;> rw [cell_of_row w b _ _ _ _ h] <;> rfl


/-- of other blocks than the box and the row behind it nothing has turned -/
def Apart (eb : Nat) (es : List Ent) (w w' : World) : Prop := ∀ a c, w.cell? ⟨eb, 0, none⟩ = some (.slice a es.length c) → ∀ q, q < w.heap.size → q ≠ eb → (Value.slice a es.length c).ownBlock ≠ some q → w'.heap[q]? = w.heap[q]?

set_option maxRecDepth 100000 in
set_option maxHeartbeats 1000000 in
theorem follow_any (B eb : Nat) (es : List Ent) (e : Ent) (a : Option Addr) (c : Nat) (w : World) (hx : Boxed w B eb es) (hs : Body w B e.body (.slice a e.body.length c)) (hB : B ≤ w.heap.size) (hn : es.length < 1000000000) :
    Calls Tryz.prog 76 #[.agg #[.int .u64 (e.ix : Int), .int .u64 (e.term : Int), .slice a e.body.length c], .pointer (some ⟨eb, 0, none⟩)] w fun r w' => r = .returned (.bool (Wl.follow es e).isSome) ∧ Boxed w' B eb ((Wl.follow es e).getD es) ∧ Turns B eb w w' ∧ Apart eb es w w' := by
  obtain ⟨a0, c0, hc0, hr⟩ := hx.cell
  have hw1 : Below w.heap.size w (w.alloc (.cells #[.int .u64 (e.ix : Int), .int .u64 (e.term : Int), .slice a e.body.length c] 55)) := (Below.refl _ _).alloc (Nat.le_refl _) _
  have hb1 : EBox (w.alloc (.cells #[.int .u64 (e.ix : Int), .int .u64 (e.term : Int), .slice a e.body.length c] 55)) w.heap.size e a c := heap_alloc_new _ _
  obtain ⟨d0, d1, d2⟩ := hb1.cells
  have hc1 := (hw1.cell (show (⟨eb, 0, none⟩ : Addr).block < w.heap.size from lt_of_cell hc0)).trans hc0
  have HB1 := Lib.hid hb1
  have HX1 := Lib.hid (hx.below hw1)
  have HR1 := Lib.hid (hr.below hw1)
  have HS1 := Lib.hid (hs.below hw1)
  have HW1 := Lib.hid hw1
  have HL := Lib.hid (fun n => (last_any ((hr.below hw1).below (many_drew _ n)) (by omega)).mono fun _ _ h => And.imp_right Eq.symm h)
  have HF := Lib.hid (fun n => (follows_any (lastIx es) e.ix ((w.alloc (.cells #[.int .u64 (e.ix : Int), .int .u64 (e.term : Int), .slice a e.body.length c] 55)).drewN n)).mono fun _ _ h => And.imp_right Eq.symm h)
  have HC0 := Lib.hid hc0
  clear hx hs hr hw1 hb1 hc0
  cases hfo : follows (lastIx es) e.ix
  · rw [hfo] at HF
    have HE := Lib.hid (show Wl.follow es e = none by unfold Wl.follow; rw [hfo]; rfl)
    clear hfo
    go_enter Tryz.func76, Tryz.ntmps76
    go_wp2_with fail
    go_quiet (first | (go_at_call 45; exact Calls.quiet_of_same (HL.out _)) | (go_at_call 77; exact Calls.quiet_of_same (HF.out _)))
    go_wp2
    go_ret
    rw [HE.out]
    exact ⟨rfl, HX1.out.below (many_drew _ _), .of_below (HW1.out.trans ((many_drew _ _).mono HW1.out.size)), fun _ _ _ q hq _ _ => (HW1.out.trans ((many_drew _ _).mono HW1.out.size)).block q hq⟩
  · rw [hfo] at HF
    have HE := Lib.hid (show Wl.follow es e = some (cutTo e.ix es ++ [e]) by unfold Wl.follow; rw [hfo]; rfl)
    have HFO := Lib.hid hfo
    clear hfo
    go_enter Tryz.func76, Tryz.ntmps76
    go_wp2_with fail
    go_quiet (first | (go_at_call 45; exact Calls.quiet_of_same (HL.out _)) | (go_at_call 77; exact Calls.quiet_of_same (HF.out _)))
    go_wp2
    have hT0 : Turns B eb w ((w.alloc (.cells #[.int .u64 (e.ix : Int), .int .u64 (e.term : Int), .slice a e.body.length c] 55)).drewN nq) := .of_below (HW1.out.trans ((many_drew _ _).mono HW1.out.size))
    have HSTART := Lib.hid (show ∃ es' : List Ent, es.length + 1 = es'.length + 1 ∧ es'.length ≤ es.length ∧ cutTo e.ix es' = cutTo e.ix es ∧ Boxed ((w.alloc (.cells #[.int .u64 (e.ix : Int), .int .u64 (e.term : Int), .slice a e.body.length c] 55)).drewN nq) B eb es' ∧ EBox ((w.alloc (.cells #[.int .u64 (e.ix : Int), .int .u64 (e.term : Int), .slice a e.body.length c] 55)).drewN nq) w.heap.size e a c ∧ Body ((w.alloc (.cells #[.int .u64 (e.ix : Int), .int .u64 (e.term : Int), .slice a e.body.length c] 55)).drewN nq) B e.body (.slice a e.body.length c) ∧ Turns B eb w ((w.alloc (.cells #[.int .u64 (e.ix : Int), .int .u64 (e.term : Int), .slice a e.body.length c] 55)).drewN nq) ∧ ((w.alloc (.cells #[.int .u64 (e.ix : Int), .int .u64 (e.term : Int), .slice a e.body.length c] 55)).drewN nq).cell? ⟨eb, 0, none⟩ = some (.slice a0 es'.length c0) ∧ (∀ q, q < w.heap.size → q ≠ eb → ((w.alloc (.cells #[.int .u64 (e.ix : Int), .int .u64 (e.term : Int), .slice a e.body.length c] 55)).drewN nq).heap[q]? = w.heap[q]?) from
      ⟨es, rfl, Nat.le_refl _, rfl, HX1.out.below (many_drew _ _), HB1.out, HS1.out.below (many_drew _ _), hT0, hc1, fun q hq _ => HW1.out.block q hq⟩)
    clear hT0
    go_loopg [] (es.length + 1) (fun g wx => ∃ es' : List Ent, g = es'.length + 1 ∧ es'.length ≤ es.length ∧ cutTo e.ix es' = cutTo e.ix es ∧ Boxed wx B eb es' ∧ EBox wx w.heap.size e a c ∧ Body wx B e.body (.slice a e.body.length c) ∧ Turns B eb w wx ∧ wx.cell? ⟨eb, 0, none⟩ = some (.slice a0 es'.length c0) ∧ (∀ q, q < w.heap.size → q ≠ eb → wx.heap[q]? = w.heap[q]?))
    case atStart => exact HSTART.out
    case round =>
      clear HSTART HX1 HR1 HS1 HW1 HL HF HB1 d0 d1 d2 hc1
      obtain ⟨es', hg, hl, hcut, hbx, heb, hrow, hT, hcx, hoth⟩ := hrel
      obtain ⟨a1, c1, hc1, hr1⟩ := hbx.cell
      obtain ⟨rfl, rfl⟩ : a1 = a0 ∧ c1 = c0 := by
        rw [hcx] at hc1
        simp only [Option.some.injEq, Value.slice.injEq, true_and] at hc1
        exact ⟨hc1.1.symm, hc1.2.symm⟩
      have HOTH := Lib.hid hoth
      clear hoth hcx
      obtain ⟨d0, d1, d2⟩ := heb.cells
      have HL := Lib.hid (fun n => (last_any (hr1.below (many_drew wr n)) (by omega)).mono fun _ _ h => And.imp_right Eq.symm h)
      have HG := Lib.hid hg
      have HCUT := Lib.hid hcut
      have HBX := Lib.hid hbx
      have HEB := Lib.hid heb
      have HROW := Lib.hid hrow
      have HT := Lib.hid hT
      have HR := Lib.hid hr1
      clear hg hcut hbx heb hrow hT hr1
      by_cases hix : e.ix ≤ lastIx es'
      · have hd : decide ((e.ix : Int) ≤ (lastIx es' : Int)) = true := by simp; exact hix
        have hd2 : decide (e.ix ≤ lastIx es') = true := by simp; exact hix
        have HI := Lib.hid hix
        clear hix
        go_wp2_with fail
        go_quiet ((go_at_call 45; exact Calls.quiet_of_same (HL.out _)))
        have hne : es' ≠ [] := fun h0 => by
          have h1 := HI.out
          rw [h0, lastIx_nil] at h1
          have h2 := HFO.out
          unfold follows at h2
          have h3 : ¬ 0 < e.ix := by omega
          rw [decide_eq_false h3] at h2
          cases h2
        obtain ⟨r, x, rfl⟩ := snoc_of hne
        obtain ⟨g, cap, _, _, hv, hgB, hgs, _, _, _, _, hcap, hcm⟩ := HR.out.at_ (i := r.length) (by simp)
        simp only [Value.slice.injEq] at hv
        obtain ⟨rfl, _, rfl⟩ := hv
        have hrl : (r ++ [x]).length = r.length + 1 := by simp
        rw [hrl] at hc1 hcap hl
        have HP := Lib.hid ((show EntRow wr B (r ++ [x]) (.slice (some ⟨g, 0, none⟩) (r.length + 1) c1) by rw [← hrl]; exact HR.out).pop.below (many_drew wr nq))
        have hcs : (wr.drewN nq).cell? ⟨eb, 0, none⟩ = some (.slice (some ⟨g, 0, none⟩) (r.length + 1) c1) := hc1
        obtain ⟨cs0, hbox⟩ := HBX.out.box
        obtain ⟨hx0, hx1⟩ : cs0.size = 1 ∧ True := ⟨by
          obtain ⟨v0, hv0, _⟩ := HBX.out.at_
          rw [hv0] at hbox
          injection hbox with h1
          injection h1 with h1 _
          rw [← h1]; rfl, trivial⟩
        have hfz : (wr.drewN nq).frozen? ⟨eb, 0, none⟩ = false := frozen_row (W := wr.drewN nq) (b := eb) hbox
        have HBOX := Lib.hid hbox
        have HX0 := Lib.hid hx0
        clear hne hgB hrl hbox hx0 hx1
        go_wp2
        have hT3 : Turns B eb w ((wr.drewN nq).setCell ⟨eb, 0, none⟩ (.slice (some ⟨g, 0, none⟩) r.length c1)) := (HT.out.trans (.of_below (many_drew wr nq))).trans (Turns.set _ _)
        have hb3 : Boxed ((wr.drewN nq).setCell ⟨eb, 0, none⟩ (.slice (some ⟨g, 0, none⟩) r.length c1)) B eb r := Boxed.put (cs := cs0) HBOX.out HX0.out HP.out
        have hbe : eb ≠ w.heap.size := fun e0 => by
          have h1 := HBOX.out
          have h2 := HEB.out
          unfold EBox at h2
          rw [← e0, h1] at h2
          injection h2 with h3
          injection h3 with _ h4
          exact absurd h4 (by decide)
        have he3 : EBox ((wr.drewN nq).setCell ⟨eb, 0, none⟩ (.slice (some ⟨g, 0, none⟩) r.length c1)) w.heap.size e a c := (Below.heap_setCell _ _ _ _ (fun e0 => hbe e0.symm)).trans HEB.out
        have hr3 : Body ((wr.drewN nq).setCell ⟨eb, 0, none⟩ (.slice (some ⟨g, 0, none⟩) r.length c1)) B e.body (.slice a e.body.length c) := ((Turns.of_below (B := B) (eb := eb) (many_drew wr nq)).trans (Turns.set _ _)).row HROW.out HBOX.out
        go_roundg (r.length + 1)
        case rel => exact ⟨r, rfl, by omega, by rw [← HCUT.out, cutTo_snoc_yes]; have := HI.out; rwa [lastIx_snoc] at this, hb3, he3, hr3, hT3, by rw [cell_of_row _ eb 0 _ _ _ (cells_set (W := wr.drewN nq) HBOX.out 0 _)]; simp [HX0.out], fun q hq hne => (Below.heap_setCell _ _ _ _ hne).trans (HOTH.out q hq hne)⟩
        case measure => rw [HG.out]; simp
      · have hd : decide ((e.ix : Int) ≤ (lastIx es' : Int)) = false := by simp; omega
        have hd2 : decide (e.ix ≤ lastIx es') = false := by simp; omega
        have HI := Lib.hid hix
        clear hix
        go_wp2_with fail
        go_quiet ((go_at_call 45; exact Calls.quiet_of_same (HL.out _)))
        obtain ⟨vs, v1, v2, v3⟩ := HR.out.row
        have hown : ((wr.drewN nq).alloc (.cells #[.int .u64 (e.ix : Int), .int .u64 (e.term : Int), .slice a e.body.length c] 55)).ownsRow B 55 3 (.slice a1 es'.length c1) es'.length (entCells es' vs) :=
          (ownsRow_keep v2 (w' := wr.drewN nq) fun k e => rfl).alloc _
        have hnews := cells_new (wr.drewN nq) [.int .u64 (e.ix : Int), .int .u64 (e.term : Int), .slice a e.body.length c] 55
        have hBn : B ≤ wr.heap.size := Nat.le_trans hB HT.out.size
        obtain ⟨i0, hi, hz0, hz1, hz2⟩ := info_parts info_ent
        have V1 := Lib.hid v1
        have V2 := Lib.hid v2
        have V3 := Lib.hid v3
        clear v1 v2 v3
        go_wp2_with (at_builtin; go_loud (refine wpList_append_own _ rfl _ _ 36 rfl B 55 i0 (.agg #[.int .u64 0, .int .u64 0, .slice none 0 0]) 3 40 Tryz.underlying36 hi hz0 hz1 hz2 rfl (by decide) _ _ _ rfl hown ⟨wr.heap.size, 0, none⟩ 1 1 [.int .u64 (e.ix : Int), .int .u64 (e.term : Int), .slice a e.body.length c] rfl rfl hnews (by simp [Value.oneCell']) (by unfold maxLen; omega) (by omega) (by simp; omega) ?_))
        intro v' w4 hown' hg4 hnil4
        obtain ⟨a', c', rfl, _⟩ := slice_shape hown'
        obtain ⟨cs0, hbox⟩ := HBX.out.box
        have hx0 : cs0.size = 1 := by
          obtain ⟨v0, hv0, _⟩ := HBX.out.at_
          rw [hv0] at hbox
          injection hbox with h1
          injection h1 with h1 _
          rw [← h1]; rfl
        have hTA : Turns B eb wr ((wr.drewN nq).alloc (.cells #[.int .u64 (e.ix : Int), .int .u64 (e.term : Int), .slice a e.body.length c] 55)) := .of_below ((many_drew wr nq).alloc (Nat.le_refl _) _)
        have hT4 : Turns B eb wr w4 := hTA.trans (Turns.grown hown hg4)
        have hbox4 : w4.heap[eb]? = some (.cells cs0 36 (0, 0)) := by
          have h1 := hg4.block eb (by simp; exact Nat.lt_succ_of_lt (lt_of_block hbox)) (fun e0 => ownsRow_off hown (b := eb) ((Below.heap_alloc (wr.drewN nq) _ _ (lt_of_block hbox)).trans hbox) (by decide) e0.symm)
          exact h1.trans ((Below.heap_alloc (wr.drewN nq) _ _ (lt_of_block hbox)).trans hbox)
        have hcell4 : w4.cell? ⟨eb, 0, none⟩ = some (.slice a1 es'.length c1) := by
          rw [World.cell?_of_block (w := wr) (w' := w4) (a := ⟨eb, 0, none⟩) (hbox4.trans hbox.symm)]
          exact hc1
        have hfz : w4.frozen? ⟨eb, 0, none⟩ = false := frozen_row hbox4
        have HKEEP := Lib.hid (show Apart eb es w w4 from fun a9 c9 h9 q hq hne hoff => by
          rw [HC0.out] at h9
          simp only [Option.some.injEq, Value.slice.injEq, true_and] at h9
          obtain ⟨rfl, rfl⟩ := h9
          have hqr : q < wr.heap.size := Nat.lt_of_lt_of_le hq HT.out.size
          exact (hg4.block q (by simp; omega) (fun e0 => hoff (by rw [e0]; cases a1 <;> rfl))).trans ((Below.heap_alloc (wr.drewN nq) _ _ hqr).trans (HOTH.out q hq hne)))
        have hent : EntRow w4 B (es' ++ [e]) (.slice a' (es'.length + 1) c') :=
          EntRow.more V1.out hown (fun i hi' => ((V3.out i hi').below (many_drew wr nq)).below ((Below.refl _ _).alloc (Nat.le_refl _) _)) ((HROW.out.below (many_drew wr nq)).below ((Below.refl _ _).alloc (Nat.le_refl _) _)) hg4 hown'
        have HO := Lib.hid hent
        have HT4 := Lib.hid hT4
        have HBOX4 := Lib.hid hbox4
        have HX0 := Lib.hid hx0
        clear hent hT4 hbox4 hx0 hTA hbox
        clear hown' hg4 hnil4 hown hnews
        go_wp2
        go_ret
        rw [HE.out, ← HCUT.out, cutTo_stop (.inr HI.out)]
        exact ⟨rfl, Boxed.put HBOX4.out HX0.out HO.out, HT.out.trans (HT4.out.trans (Turns.set _ _)), fun a9 c9 h9 q hq hne hoff => (Below.heap_setCell _ _ _ _ hne).trans (HKEEP.out a9 c9 h9 q hq hne hoff)⟩

end Go.Proofs.YtmfemedcjgeheaaGreatDoor
