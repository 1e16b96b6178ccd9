/- The disk's small functions, by their contracts: bytes.Clone, refusal, now. settle, by its contract: a file is sure as a version is. file, appended, by their contracts. -/
import Derived.Test.YtjpbniajhkindaaDisk
import Derived.Test.YtjpbniajhkindaaTxA
import Derived.Test.YtjpbniajhkindaaShelf
import Derived.WalkKit
import Derived.Laws.Cover3
import Derived.Lib.Hide
import Derived.StillTailTactics
namespace Go.Proofs.Ytjpbniajhkindaa
open Go.RowKit Go.Maps Dsk

/-- bytes.Clone of bytes that are read: a row of the call's own -/
theorem clone_reads (a : Option Addr) (len cap : Nat) (zs : List Int) (w : World) (hz : len = zs.length) (hp : Reads w a zs) (hl : zs.length ≤ 1048577) (hn : a = none → cap = 0) :
    Calls Try.prog 28 #[.slice a len cap] w fun e w' => ∃ v, e = .returned v ∧ Row w' w.heap.size zs v ∧ Below w.heap.size w w' := by
  subst hz
  cases a with
  | some x =>
    refine (Try.bytes_Clone_at x zs.length cap zs w rfl (by omega) (fun i hi => hp.at hi)).mono ?_
    rintro e w' ⟨v, rfl, h1, _, h2⟩
    exact ⟨v, rfl, h1, h2⟩
  | none =>
    obtain rfl := hn rfl
    have hzs : zs = [] := by
      cases zs with
      | nil => rfl
      | cons z zs =>
        obtain ⟨x, hx, _⟩ := hp.cell 0 (by simp)
        cases hx
    subst hzs
    refine (Try.bytes_Clone_nil _ _ w).mono ?_
    rintro e w' ⟨rfl, rfl⟩
    exact ⟨_, rfl, World.ownsRow_nil _ _ _ _, Below.refl _ _⟩

theorem clone_row {B : Nat} (v : Value) (zs : List Int) (w : World) (h : Row w B zs v) (hr : ∀ x ∈ zs, 0 ≤ x ∧ x ≤ 255) (hl : zs.length ≤ 1048577) :
    Calls Try.prog 28 #[v] w fun e w' => ∃ v', e = .returned v' ∧ Row w' w.heap.size zs v' ∧ Below w.heap.size w w' := by
  obtain ⟨a, cap, rfl, h1, h2, h3⟩ := h.reads hr (by omega)
  refine clone_reads a _ cap zs w rfl h1 hl fun ha => ?_
  subst ha
  rcases h.2 with ⟨hv, _⟩ | ⟨g, c, cur, hv, _⟩
  · injection hv
  · cases hv

theorem DiskIn.cell {w : World} {B : Nat} {o : Tags} {g b N : Nat} {D : DataW Value} {M : Files} {l : Option Name} (h : DiskIn w B o g b D M N l) : w.cell? ⟨g, 0, none⟩ = some (.map (some b)) := by
  rw [cell_of_row w g 0 _ _ _ h.blk]; rfl

theorem map_nil (w : World) (x : Option Nat) : (binOp .eql 45 (.map x) (.map none)).run Try.prog w = .ok (.bool x.isNone) w := by
  simp only [binOp]
  simp [run_equal_map_nil w 45 9 64 x Try.underlying45]

theorem refusal_ok (g b : Nat) (l : Name) (w : World) (hc : w.cell? ⟨g, 0, none⟩ = some (.map (some b))) (h1 : 1 ≤ l.length) (h2 : l.length ≤ 64) :
    Calls Try.prog 29 #[.pointer (some ⟨g, 0, none⟩), .string ⟨l.toArray⟩] w fun e w' => e = .returned (.int .i64 0) ∧ w = w' := by
  have hne : l ≠ [] := fun e => by rw [e] at h1; simp at h1
  have hem : l.isEmpty = false := by cases l <;> simp_all
  have hd : decide (64 < (l.length : Int)) = false := by simp; omega
  clear h1 h2
  have hm := map_nil w (some b)
  simp only [Option.isNone_some] at hm
  go_enter Try.func29, Try.ntmps29
  go_wp2
  go_ret
  exact ⟨rfl, rfl⟩

theorem refusal_nil (x : Value) (w : World) :
    Calls Try.prog 29 #[.pointer none, x] w fun e w' => e = .returned (.int .i64 1) ∧ w = w' := by
  go_enter Try.func29, Try.ntmps29
  go_wp2
  go_ret
  exact ⟨rfl, rfl⟩

theorem refusal_zero (g : Nat) (x : Value) (w : World) (hc : w.cell? ⟨g, 0, none⟩ = some (.map none)) :
    Calls Try.prog 29 #[.pointer (some ⟨g, 0, none⟩), x] w fun e w' => e = .returned (.int .i64 1) ∧ w = w' := by
  have hm := map_nil w none
  simp only [Option.isNone_none] at hm
  go_enter Try.func29, Try.ntmps29
  go_wp2
  go_ret
  exact ⟨rfl, rfl⟩

/-- &f.sure -/
theorem now_sure (fb : Nat) (a : Option Addr) (cap : Nat) (w : World) (hc : w.cell? ⟨fb, 3, none⟩ = some (.slice a 0 cap)) :
    Calls Try.prog 27 #[.pointer (some ⟨fb, 0, none⟩)] w fun e w' => e = .returned (.pointer (some ⟨fb, 0, none⟩)) ∧ w = w' := by
  go_enter Try.func27, Try.ntmps27
  go_wp2
  go_ret
  exact ⟨rfl, rfl⟩

/-- &f.later[n-1] -/
theorem now_later (fb gl n cap : Nat) (w : World) (hn : n + 1 ≤ 1000000000) (hc : w.cell? ⟨fb, 3, none⟩ = some (.slice (some ⟨gl, 0, none⟩) (n + 1) cap)) :
    Calls Try.prog 27 #[.pointer (some ⟨fb, 0, none⟩)] w fun e w' => e = .returned (.pointer (some ⟨gl, n * 3, none⟩)) ∧ w = w' := by
  go_enter Try.func27, Try.ntmps27
  go_wp2
  go_ret
  exact ⟨rfl, rfl⟩

end Go.Proofs.Ytjpbniajhkindaa

namespace Go.Proofs.Ytjpbniajhkindaa
open Go.RowKit Go.Maps Dsk

section
variable {w w' : World} {B : Nat} {o o' : Tags} {g b N : Nat} {D : DataW Value} {M : Files} {l : Option Name}

theorem Row.own {zs : List Int} {v : Value} (h : Row w B zs v) : ∀ k, v.ownBlock = some k → B ≤ k ∧ k < w.heap.size := World.ownsRow.lt h

/-- of the file n one slice alone is left -/
theorem DiskIn.retag (h : DiskIn w B o g b D M N none) (n : Name) (s : Value) (zs : List Int) (hs : Row w B zs s) (hso : ∀ k, s.ownBlock = some k → o k = none ∨ ∃ j, o k = some (.file n j)) :
    DiskIn w B (o.only n s (.file n 0)) g b D M N (some n) := by
  refine (h.but n).keep (fun _ e => e) (h.but n).here (fun _ _ _ _ => rfl) (fun k t e ht => ?_) (fun k e => ?_)
  · unfold Tags.only
    by_cases hk : s.ownBlock = some k
    · rcases hso k hk with h1 | ⟨j, h1⟩
      · rw [h1] at e; cases e
      · rw [h1] at e; cases e
        exact absurd rfl (ht n j rfl)
    · rw [if_neg hk, e]
      cases t with
      | file m j =>
        have : m ≠ n := fun e' => ht m j rfl (by rw [e'])
        simp [this]
      | _ => rfl
  · unfold Tags.only at e
    by_cases hk : s.ownBlock = some k
    · exact hs.own k hk
    · rw [if_neg hk] at e
      refine h.own k fun e' => e ?_
      rw [e']

theorem only_own (o : Tags) (n : Name) (s : Value) (t : Tag) : ∀ k, s.ownBlock = some k → o.only n s t k = some t := fun k e => by simp [Tags.only, e]
theorem only_none (o : Tags) (n : Name) (s : Value) (t : Tag) {k : Nat} (h : o k = none) (hs : s.ownBlock ≠ some k) : o.only n s t k = none := by simp [Tags.only, hs, h]
end

/-- what a store into the map, or a 'delete', leaves -/
theorem StepX.stored {w W w' : World} {o o' : Tags} {b : Nat} {x : Value} (hb : Below w.heap.size w W) (hg : W.grownBy w' (some b)) (ob : o b = some .map) (hf : ∀ k, o k = none → x.ownBlock ≠ some k → o' k = none) : StepX x o w o' w' :=
  ⟨hg.os.trans hb.os, hg.tape.trans hb.tape, hg.output.trans hb.output, Nat.le_trans hb.size hg.size,
   fun k hk e => (hg.block k (Nat.lt_of_lt_of_le hk hb.size) fun e' => by cases e'; rw [ob] at e; cases e).trans (hb.block k hk),
   fun k _ e hx => hf k e hx⟩

/-- a slice that is a row has this shape -/
theorem Row.shape {w : World} {B : Nat} {zs : List Int} {v : Value} (h : Row w B zs v) : ∃ a c, v = .slice a zs.length c := by
  rcases h.2 with ⟨rfl, hn⟩ | ⟨g, cap, cur, rfl, _⟩
  · exact ⟨none, 0, by rw [hn]⟩
  · exact ⟨_, _, rfl⟩

set_option maxRecDepth 100000 in
set_option maxHeartbeats 1000000 in
theorem settle_there (g B N : Nat) (o : Tags) (M : Files) (l : Name) (s : Value) (zs : List Int) (wh : Int) (w : World) (hd : DiskAt w B o g M N) (hM : (M l).isSome = true) (hs : Row w B zs s) (hz : zs.length ≤ 1048576) (hr : ∀ x ∈ zs, 0 ≤ x ∧ x ≤ 255)
    (hso : ∀ k, s.ownBlock = some k → o k = none ∨ ∃ j, o k = some (.file l j)) (hl : l.length ≤ 64) (hN : N < 4611686018427387904) :
    Calls Try.prog 22 #[.pointer (some ⟨g, 0, none⟩), .string ⟨l.toArray⟩, .agg #[.bool true, s, .int .i64 wh]] w fun e w' => e = .returned (.tuple #[]) ∧
      ∃ o', DiskAt w' B o' g (upd M l (some ⟨⟨true, zs, zs.length⟩, [], false⟩)) N ∧ StepX s o w o' w' := by
  obtain ⟨b, D, hd⟩ := hd
  obtain ⟨a, cp, rfl⟩ := hs.shape
  have hr1 := hd.retag l _ zs hs hso
  have hgs := (hd.own g (by rw [hd.og]; simp)).2
  have hF : ∀ W : World, Below w.heap.size w W → FileAt W B (o.only l (.slice a zs.length cp) (.file l 0)) l ⟨true, a, zs.length, cp, zs.length, none, 0, 0, false⟩ ⟨⟨true, zs, zs.length⟩, [], false⟩ := fun W hb =>
    ⟨rfl, rfl, rfl, ⟨hs.below hb, only_own _ _ _ _⟩, ⟨⟨Nat.le_refl _, hz, hr⟩, fun v hv => by cases hv⟩, [], rfl, World.ownsRow_nil _ _ _ _, (fun k e => by cases e), fun i hi => absurd hi (by simp)⟩
  have hcell := hd.cell
  have hB : Below w.heap.size w (w.alloc (.cells #[.bool true, .slice a zs.length cp, .int .i64 zs.length] 61)) := (Below.refl _ _).alloc (Nat.le_refl _) _
  have hx : (w.alloc (.cells #[.bool true, .slice a zs.length cp, .int .i64 zs.length] 61)).heap[w.heap.size]? = some (.cells #[.bool true, .slice a zs.length cp, .int .i64 zs.length] 61 (0, 0)) := heap_alloc_new _ _
  have HG := Lib.hid hgs
  have HM := Lib.hid hM
  have HZ := Lib.hid hz
  have HS := Lib.hid hs
  clear hgs hM hz hs hso hr
  go_enter Try.func22, Try.ntmps22
  go_wp2
  generalize (w.alloc (.cells #[.bool true, .slice a zs.length cp, .int .i64 zs.length] 61)) = W at *
  have hc1 := (hd.below hB).cell
  have hr2 := hr1.below hB
  have hf := hF W.drew hB.drew
  have c0 : W.cell? ⟨w.heap.size, 0, none⟩ = some (.bool true) := by rw [cell_of_row W _ 0 _ _ _ hx]; rfl
  have c1 : W.cell? ⟨w.heap.size, 1, none⟩ = some (.slice a zs.length cp) := by rw [cell_of_row W _ 1 _ _ _ hx]; rfl
  have c2 : W.cell? ⟨w.heap.size, 2, none⟩ = some (.int .i64 zs.length) := by rw [cell_of_row W _ 2 _ _ _ hx]; rfl
  clear hx hcell
  obtain ⟨w', hrun, hd', hg', hs'⟩ := hr2.drew.store hf (by unfold maxLen; omega) (by unfold maxLen; omega)
  rw [cntN_has N HM.out] at hd'
  have HD := Lib.hid hd'
  have HS' := Lib.hid hs'
  have HG' := Lib.hid hg'
  clear hd' hs' hg' hr2 hr1 hf hF
  go_still_tail 7, (by kernel_rfl)
  change wpList _ _ _ _ _ W.drew
  generalize hWd : W.drew = W2 at hrun HG' HS' ⊢
  have HWd := Lib.hid hWd
  clear hWd c0 c1 c2 hc1
  simp only [mkV] at hrun
  go_wp2
  go_end0
  exact ⟨rfl, _, ⟨b, _, HD.out⟩, .stored (by rw [← HWd.out]; exact hB.drew) HG'.out hd.ob fun k e hx => only_none _ _ _ _ e hx⟩

set_option maxRecDepth 100000 in
set_option maxHeartbeats 1000000 in
theorem settle_gone (g B N : Nat) (o : Tags) (M : Files) (l : Name) (s : Value) (wh : Int) (w : World) (hd : DiskAt w B o g M N) (hl : l.length ≤ 64) :
    Calls Try.prog 22 #[.pointer (some ⟨g, 0, none⟩), .string ⟨l.toArray⟩, .agg #[.bool false, s, .int .i64 wh]] w fun e w' => e = .returned (.tuple #[]) ∧
      ∃ o', DiskAt w' B o' g (upd M l none) N ∧ Step o w o' w' := by
  obtain ⟨b, D, hd⟩ := hd
  have hgs := (hd.own g (by rw [hd.og]; simp)).2
  have hr1 := hd.but l
  have hcell := hd.cell
  have hB : Below w.heap.size w (w.alloc (.cells #[.bool false, s, .int .i64 wh] 61)) := (Below.refl _ _).alloc (Nat.le_refl _) _
  have hx : (w.alloc (.cells #[.bool false, s, .int .i64 wh] 61)).heap[w.heap.size]? = some (.cells #[.bool false, s, .int .i64 wh] 61 (0, 0)) := heap_alloc_new _ _
  have hcW : (w.alloc (.cells #[.bool false, s, .int .i64 wh] 61)).cell? ⟨g, 0, none⟩ = some (.map (some b)) := (hd.below hB).cell
  obtain ⟨w', hrun, hd', hg', hs'⟩ := (hr1.below hB).del (by unfold maxLen; omega) 0
  have HD := Lib.hid hd'
  have HG' := Lib.hid hg'
  have HO := Lib.hid hd.ob
  have HB := Lib.hid hB
  clear hgs hcell hd hd' hg' hs' hx hr1 hB
  go_enter Try.func22, Try.ntmps22
  go_wp2
  refine bodyPost_ret (v := .tuple #[]) (by simp [results, go_sem]) rfl ?_
  exact ⟨rfl, _, ⟨b, _, HD.out⟩, .stored HB.out HG'.out HO.out fun k e hx => e⟩
end Go.Proofs.Ytjpbniajhkindaa

namespace Go.Proofs.Ytjpbniajhkindaa
open Go.RowKit Go.Maps Dsk

set_option maxRecDepth 100000 in
set_option maxHeartbeats 1000000 in
theorem file_any (g B N : Nat) (o : Tags) (M : Files) (l : Name) (w : World) (hd : DiskAt w B o g M N) (hl : l.length ≤ 64) :
    Calls Try.prog 26 #[.pointer (some ⟨g, 0, none⟩), .string ⟨l.toArray⟩] w fun e w' => ∃ c, e = .returned (mkV c) ∧ FileAt w B o l c (M.at l) ∧ Below w.heap.size w w' := by
  obtain ⟨b, D, hd⟩ := hd
  have hB : Below w.heap.size w (w.alloc (.cells #[.bool false, .slice none 0 0, .int .i64 0, .slice none 0 0, .bool false] 64)) := (Below.refl _ _).alloc (Nat.le_refl _) _
  have hcW := (hd.below hB).cell
  obtain ⟨⟨t, sa, sn, sc, wh, la, ln, lc, ls⟩, hf, hrun, _⟩ := (hd.below hB).look l (by unfold maxLen; omega)
  simp only [mkV] at hrun
  have HF := Lib.hid (show FileAt w B o l ⟨t, sa, sn, sc, wh, la, ln, lc, ls⟩ (M.at l) from hf.keep (fun k j e => (hB.block k (hd.own k (by rw [e]; simp)).2).symm) (fun k j e => e))
  clear hf hd
  go_enter Try.func26, Try.ntmps26
  go_wp2
  refine bodyPost_ret (v := .agg #[.bool t, .slice sa sn sc, .int .i64 wh, .slice la ln lc, .bool ls]) ?_ rfl ⟨⟨t, sa, sn, sc, wh, la, ln, lc, ls⟩, rfl, HF.out, (Below.refl _ _).alloc (Nat.le_refl _) _⟩
  simp [results, Try.results26, go_sem]

set_option maxHeartbeats 400000 in
theorem appended_any (t : Bool) (a : Option Addr) (n c wh : Nat) (w : World) (h : wh ≤ n) (hn : n ≤ 1048576) :
    Calls Try.prog 38 #[.agg #[.bool t, .slice a n c, .int .i64 wh]] w fun e w' => e = .returned (.int .i64 ((n - wh : Nat) : Int)) ∧ Below w.heap.size w w' := by
  have hB : Below w.heap.size w (w.alloc (.cells #[.bool t, .slice a n c, .int .i64 wh] 61)) := (Below.refl _ _).alloc (Nat.le_refl _) _
  go_enter Try.func38, Try.ntmps38
  go_wp2
  go_ret
  refine ⟨?_, hB⟩
  show Ending.returned (.int .i64 ((n : Int) - wh)) = _
  rw [Int.ofNat_sub h]
end Go.Proofs.Ytjpbniajhkindaa
