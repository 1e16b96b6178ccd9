/- settle, by its contract: a file is sure as a version is. -/
import Derived.Test.YtchmipeehhbniaaDisk1
import Derived.StillTailTactics
namespace Go.Proofs.Ytchmipeehhbniaa
open Go.RowKit Go.Maps Dsk

section
variable {w w' : World} {B : Nat} {o o' : Tags} {g b N : Nat} {D : DataW Value} {M : Files} {l : Option Name}

theorem Row.own {zs : List Int} {v : Value} (h : Row w B zs v) : ∀ k, v.ownBlock = some k → B ≤ k ∧ k < w.heap.size := World.ownsRow.lt h

/-- of the file n one slice alone is left -/
theorem DiskIn.retag (h : DiskIn w B o g b D M N none) (n : Name) (s : Value) (zs : List Int) (hs : Row w B zs s) (hso : ∀ k, s.ownBlock = some k → o k = none ∨ ∃ j, o k = some (.file n j)) :
    DiskIn w B (o.only n s (.file n 0)) g b D M N (some n) := by
  refine (h.but n).keep (fun _ e => e) (h.but n).here (fun _ _ _ _ => rfl) (fun k t e ht => ?_) (fun k e => ?_)
  · unfold Tags.only
    by_cases hk : s.ownBlock = some k
    · rcases hso k hk with h1 | ⟨j, h1⟩
      · rw [h1] at e; cases e
      · rw [h1] at e; cases e
        exact absurd rfl (ht n j rfl)
    · rw [if_neg hk, e]
      cases t with
      | file m j =>
        have : m ≠ n := fun e' => ht m j rfl (by rw [e'])
        simp [this]
      | _ => rfl
  · unfold Tags.only at e
    by_cases hk : s.ownBlock = some k
    · exact hs.own k hk
    · rw [if_neg hk] at e
      refine h.own k fun e' => e ?_
      rw [e']

theorem only_own (o : Tags) (n : Name) (s : Value) (t : Tag) : ∀ k, s.ownBlock = some k → o.only n s t k = some t := fun k e => by simp [Tags.only, e]
theorem only_none (o : Tags) (n : Name) (s : Value) (t : Tag) {k : Nat} (h : o k = none) (hs : s.ownBlock ≠ some k) : o.only n s t k = none := by simp [Tags.only, hs, h]
end

/-- what a store into the map, or a 'delete', leaves -/
theorem StepX.stored {w W w' : World} {o o' : Tags} {b : Nat} {x : Value} (hb : Below w.heap.size w W) (hg : W.grownBy w' (some b)) (ob : o b = some .map) (hf : ∀ k, o k = none → x.ownBlock ≠ some k → o' k = none) : StepX x o w o' w' :=
  ⟨hg.os.trans hb.os, hg.tape.trans hb.tape, hg.output.trans hb.output, Nat.le_trans hb.size hg.size,
   fun k hk e => (hg.block k (Nat.lt_of_lt_of_le hk hb.size) fun e' => by cases e'; rw [ob] at e; cases e).trans (hb.block k hk),
   fun k _ e hx => hf k e hx⟩

/-- a slice that is a row has this shape -/
theorem Row.shape {w : World} {B : Nat} {zs : List Int} {v : Value} (h : Row w B zs v) : ∃ a c, v = .slice a zs.length c := by
  rcases h.2 with ⟨rfl, hn⟩ | ⟨g, cap, cur, rfl, _⟩
  · exact ⟨none, 0, by rw [hn]⟩
  · exact ⟨_, _, rfl⟩

set_option maxRecDepth 100000 in
set_option maxHeartbeats 1000000 in
theorem settle_there (g B N : Nat) (o : Tags) (M : Files) (l : Name) (s : Value) (zs : List Int) (wh : Int) (w : World) (hd : DiskAt w B o g M N) (hM : (M l).isSome = true) (hs : Row w B zs s) (hz : zs.length ≤ 1048576) (hr : ∀ x ∈ zs, 0 ≤ x ∧ x ≤ 255)
    (hso : ∀ k, s.ownBlock = some k → o k = none ∨ ∃ j, o k = some (.file l j)) (hl : l.length ≤ 64) (hN : N < 4611686018427387904) :
    Calls Try.prog 17 #[.pointer (some ⟨g, 0, none⟩), .string ⟨l.toArray⟩, .agg #[.bool true, s, .int .i64 wh]] w fun e w' => e = .returned (.tuple #[]) ∧
      ∃ o', DiskAt w' B o' g (upd M l (some ⟨⟨true, zs, zs.length⟩, [], false⟩)) N ∧ StepX s o w o' w' := by
  obtain ⟨b, D, hd⟩ := hd
  obtain ⟨a, cp, rfl⟩ := hs.shape
  have hr1 := hd.retag l _ zs hs hso
  have hgs := (hd.own g (by rw [hd.og]; simp)).2
  have hF : ∀ W : World, Below w.heap.size w W → FileAt W B (o.only l (.slice a zs.length cp) (.file l 0)) l ⟨true, a, zs.length, cp, zs.length, none, 0, 0, false⟩ ⟨⟨true, zs, zs.length⟩, [], false⟩ := fun W hb =>
    ⟨rfl, rfl, rfl, ⟨hs.below hb, only_own _ _ _ _⟩, ⟨⟨Nat.le_refl _, hz, hr⟩, fun v hv => by cases hv⟩, [], rfl, World.ownsRow_nil _ _ _ _, (fun k e => by cases e), fun i hi => absurd hi (by simp)⟩
  have hcell := hd.cell
  have hB : Below w.heap.size w (w.alloc (.cells #[.bool true, .slice a zs.length cp, .int .i64 zs.length] 44)) := (Below.refl _ _).alloc (Nat.le_refl _) _
  have hx : (w.alloc (.cells #[.bool true, .slice a zs.length cp, .int .i64 zs.length] 44)).heap[w.heap.size]? = some (.cells #[.bool true, .slice a zs.length cp, .int .i64 zs.length] 44 (0, 0)) := heap_alloc_new _ _
  have HG := Lib.hid hgs
  have HM := Lib.hid hM
  have HZ := Lib.hid hz
  have HS := Lib.hid hs
  clear hgs hM hz hs hso hr
  go_enter Try.func17, Try.ntmps17
  go_wp2
  generalize (w.alloc (.cells #[.bool true, .slice a zs.length cp, .int .i64 zs.length] 44)) = W at *
  have hc1 := (hd.below hB).cell
  have hr2 := hr1.below hB
  have hf := hF W.drew hB.drew
  have c0 : W.cell? ⟨w.heap.size, 0, none⟩ = some (.bool true) := by rw [cell_of_row W _ 0 _ _ _ hx]; rfl
  have c1 : W.cell? ⟨w.heap.size, 1, none⟩ = some (.slice a zs.length cp) := by rw [cell_of_row W _ 1 _ _ _ hx]; rfl
  have c2 : W.cell? ⟨w.heap.size, 2, none⟩ = some (.int .i64 zs.length) := by rw [cell_of_row W _ 2 _ _ _ hx]; rfl
  clear hx hcell
  obtain ⟨w', hrun, hd', hg', hs'⟩ := hr2.drew.store hf (by unfold maxLen; omega) (by unfold maxLen; omega)
  rw [cntN_has N HM.out] at hd'
  have HD := Lib.hid hd'
  have HS' := Lib.hid hs'
  have HG' := Lib.hid hg'
  clear hd' hs' hg' hr2 hr1 hf hF
  go_still_tail 7, (by kernel_rfl)
  change wpList _ _ _ _ _ W.drew
  generalize hWd : W.drew = W2 at hrun HG' HS' ⊢
  have HWd := Lib.hid hWd
  clear hWd c0 c1 c2 hc1
  simp only [mkV] at hrun
  go_wp2
  go_end0
  exact ⟨rfl, _, ⟨b, _, HD.out⟩, .stored (by rw [← HWd.out]; exact hB.drew) HG'.out hd.ob fun k e hx => only_none _ _ _ _ e hx⟩

set_option maxRecDepth 100000 in
set_option maxHeartbeats 1000000 in
theorem settle_gone (g B N : Nat) (o : Tags) (M : Files) (l : Name) (s : Value) (wh : Int) (w : World) (hd : DiskAt w B o g M N) (hl : l.length ≤ 64) :
    Calls Try.prog 17 #[.pointer (some ⟨g, 0, none⟩), .string ⟨l.toArray⟩, .agg #[.bool false, s, .int .i64 wh]] w fun e w' => e = .returned (.tuple #[]) ∧
      ∃ o', DiskAt w' B o' g (upd M l none) N ∧ Step o w o' w' := by
  obtain ⟨b, D, hd⟩ := hd
  have hgs := (hd.own g (by rw [hd.og]; simp)).2
  have hr1 := hd.but l
  have hcell := hd.cell
  have hB : Below w.heap.size w (w.alloc (.cells #[.bool false, s, .int .i64 wh] 44)) := (Below.refl _ _).alloc (Nat.le_refl _) _
  have hx : (w.alloc (.cells #[.bool false, s, .int .i64 wh] 44)).heap[w.heap.size]? = some (.cells #[.bool false, s, .int .i64 wh] 44 (0, 0)) := heap_alloc_new _ _
  have hcW : (w.alloc (.cells #[.bool false, s, .int .i64 wh] 44)).cell? ⟨g, 0, none⟩ = some (.map (some b)) := (hd.below hB).cell
  obtain ⟨w', hrun, hd', hg', hs'⟩ := (hr1.below hB).del (by unfold maxLen; omega) 0
  have HD := Lib.hid hd'
  have HG' := Lib.hid hg'
  have HO := Lib.hid hd.ob
  have HB := Lib.hid hB
  clear hgs hcell hd hd' hg' hs' hx hr1 hB
  go_enter Try.func17, Try.ntmps17
  go_wp2
  refine bodyPost_ret (v := .tuple #[]) (by simp [results, go_sem]) rfl ?_
  exact ⟨rfl, _, ⟨b, _, HD.out⟩, .stored HB.out HG'.out HO.out fun k e hx => e⟩
end Go.Proofs.Ytchmipeehhbniaa
