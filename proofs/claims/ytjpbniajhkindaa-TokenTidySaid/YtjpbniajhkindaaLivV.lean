/- A disk in the world; isNone and write, by their contracts. -/
import Derived.Test.YtjpbniajhkindaaRecV
import Derived.Test.YtjpbniajhkindaaRefScan
import Derived.Test.YtjpbniajhkindaaNoneD
import Derived.Test.YtjpbniajhkindaaKn9
import Derived.Maps.OwnIn
namespace Go.Proofs.Ytjpbniajhkindaa
open Go.RowKit Go.Maps Go.Sort Dsk

/-- what a disk may be: few files, few versions of each -/
def Tame (M : Files) : Prop := ∀ l f, M l = some f → l.length ≤ 64 ∧ f.later.length ≤ 1000
theorem Tame.good {M : Files} (h : Tame M) : Good M := fun l f hf => ⟨(h l f hf).1, by have := (h l f hf).2; omega⟩
structure Liv (w : World) (B : Nat) (o : Tags) (g : Nat) (M : Files) (N : Nat) : Prop where
  disk : DiskAt w B o g M N
  hB : B ≤ w.heap.size
  tame : Tame M
  few : N ≤ 50

section
variable {w w' : World} {B g N N' : Nat} {o o' : Tags} {M M' : Files}
theorem Liv.below (h : Liv w B o g M N) (hb : Below w.heap.size w w') : Liv w' B o g M N := ⟨h.disk.below hb, Nat.le_trans h.hB hb.size, h.tame, h.few⟩
theorem Liv.step (h : Liv w B o g M N) (hs : Step o w o' w') (hd : DiskAt w' B o' g M' N') (hg : Tame M') (hN : N' ≤ 50) : Liv w' B o' g M' N' :=
  ⟨hd, Nat.le_trans h.hB hs.size, hg, hN⟩
theorem Liv.free (h : Liv w B o g M N) {k : Nat} (hk : w.heap.size ≤ k) : o k = none := by
  cases e : o k with
  | none => rfl
  | some t => have := (h.disk.owns k (by rw [e]; simp)).2; omega
theorem Tame.at_ (h : Tame M) (l : Name) : (M.at l).later.length ≤ 1000 := by
  unfold Files.at
  cases hM : M l with
  | none => simp [Fil.zero]
  | some f => simpa using (h l f hM).2
theorem Liv.at_ (h : Liv w B o g M N) (l : Name) : (M.at l).later.length < 1000000000 := by
  have := h.tame.at_ l
  omega
theorem Liv.ok (h : Liv w B o g M N) (l : Name) : (M.at l).ok := by
  obtain ⟨b9, D9, hd9⟩ := h.disk
  obtain ⟨c9, _, _, _, hf9⟩ := hd9.file l
  exact hf9.ok
end

theorem upd_upd (M : Files) (n : Name) (x y : Option Fil) : upd (upd M n x) n y = upd M n y := by
  funext m
  unfold upd
  split <;> rfl
theorem tame_upd {M : Files} (h : Tame M) {n : Name} {x : Option Fil} (hn : n.length ≤ 64) (hx : ∀ f, x = some f → f.later.length ≤ 1000) : Tame (upd M n x) := by
  intro l f hf
  unfold upd at hf
  split at hf
  · rename_i e
    subst e
    exact ⟨hn, hx f hf⟩
  · exact h l f hf
theorem chg_now (f : Fil) (v : Ver) : (f.chg v).now = v := Fil.now_some (l := f.later) rfl

/-- a file that is sure of these bytes -/
def sureF (zs : List Int) : Fil := ⟨⟨true, zs, zs.length⟩, [], false⟩

theorem refusal_empty (g b : Nat) (w : World) (hc : w.cell? ⟨g, 0, none⟩ = some (.map (some b))) :
    Calls Try.prog 29 #[.pointer (some ⟨g, 0, none⟩), .string ⟨#[]⟩] w fun e w' => e = .returned (.int .i64 2) ∧ w = w' := by
  have hm := map_nil w (some b)
  simp only [Option.isNone_some] at hm
  go_enter Try.func29, Try.ntmps29
  go_wp2
  go_ret
  exact ⟨rfl, rfl⟩

theorem sync_empty {w : World} {B g N : Nat} {o : Tags} {M : Files} (h : DiskAt w B o g M N) :
    Calls Try.prog 14 #[.pointer (some ⟨g, 0, none⟩), .string ⟨#[]⟩] w fun e w' => e = .returned (.int .i64 2) ∧ w = w' := by
  obtain ⟨b, D, hd⟩ := h
  have H := Lib.hid (refusal_empty g b w hd.cell)
  clear hd
  go_enter Try.func14, Try.ntmps14
  go_wp2_with fail
  refine H.out.mono ?_
  rintro e w1 ⟨rfl, rfl⟩
  go_wp2
  go_ret
  exact ⟨rfl, rfl⟩

theorem cat_flat (ls : List (List Int)) : ∀ k, k ≤ ls.length → cat (fun i => Frame.frameOf (ls.getD i [])) k = Frame.flat (ls.take k)
  | 0, _ => by simp [cat, Frame.flat]
  | k + 1, h => by
    have e : ls.getD k [] = ls[k] := by simp [List.getD, show k < ls.length by omega]
    rw [cat, cat_flat ls k (by omega), List.take_succ_eq_append_getElem (show k < ls.length by omega), Frame.flat_snoc, e]

/-- a row of frames that were made -/
structure FrameRow (w : World) (B : Nat) (ls : List (List Int)) (k : Nat) (G C : Nat → Nat) (v : Value) : Prop where
  row : w.ownsRow B 33 1 v k ((List.range k).map fun i => .slice (some ⟨G i, 0, none⟩) (Frame.frameOf (ls.getD i [])).length (C i))
  here : ∀ i, i < k → Here w (G i) (Frame.frameOf (ls.getD i []))

theorem FrameRow.below {w w' : World} {B : Nat} {ls : List (List Int)} {k : Nat} {G C : Nat → Nat} {v : Value} (h : FrameRow w B ls k G C v) (hb : Below w.heap.size w w') : FrameRow w' B ls k G C v :=
  ⟨ownsRow_keep h.row fun j e => hb.block j (World.ownsRow.lt h.row j e).2, fun i hi => (h.here i hi).below hb⟩

theorem FrameRow.parts {w : World} {B : Nat} {ls : List (List Int)} {k : Nat} {G C : Nat → Nat} {g c : Nat} (h : FrameRow w B ls k G C (.slice (some ⟨g, 0, none⟩) k c)) :
    Parts w g k (fun i => some ⟨G i, 0, none⟩) (fun i => Frame.frameOf (ls.getD i [])) C where
  cell := fun i hi => by
    have := h.row.cellAt i (by omega)
    rw [this]
    simp [hi]
  nil := fun i _ e => by cases e
  reads := fun i hi ad ha => reads_news (h.here i hi).reads ad ha

def fn1 (G : Nat → Nat) (k x : Nat) : Nat → Nat := fun i => if i = k then x else G i
theorem fn1_self (G : Nat → Nat) (k x : Nat) : fn1 G k x k = x := by simp [fn1]
theorem fn1_other (G : Nat → Nat) (k x i : Nat) (h : i < k) : fn1 G k x i = G i := by simp [fn1, show i ≠ k by omega]

end Go.Proofs.Ytjpbniajhkindaa
