/- Plain mathematics of layer 9's statements: a disk of three files at most. The chapter's examples of layer 9 come out. -/
import Derived.Test.YtjpbniajhkindaaDskM
import Derived.Lib.Hide
import Derived.Test.YtjpbniajhkindaaDskD
import Derived.Lib.SlBytesConst
namespace Go.Proofs.Ytjpbniajhkindaa.Dsk

def nA : Name := [97]
def nG : Name := [103, 111, 110, 101]
def nL : Name := [108, 111, 103]

/-- the files 'a', 'gone', 'log' -/
def T (fa fg fl : Option Fil) : Files := fun n => if n = nA then fa else if n = nG then fg else if n = nL then fl else none

theorem ne_GA : nG ≠ nA := by decide
theorem ne_LA : nL ≠ nA := by decide
theorem ne_LG : nL ≠ nG := by decide

theorem T_A (fa fg fl : Option Fil) : T fa fg fl nA = fa := by simp [T]
theorem T_G (fa fg fl : Option Fil) : T fa fg fl nG = fg := by simp [T, ne_GA]
theorem T_L (fa fg fl : Option Fil) : T fa fg fl nL = fl := by simp [T, ne_LA, ne_LG]
theorem T_none : (fun _ => none : Files) = T none none none := by funext n; simp [T]

theorem upd_A (fa fg fl x : Option Fil) : upd (T fa fg fl) nA x = T x fg fl := by
  funext n; unfold upd T; split <;> rfl
theorem upd_G (fa fg fl x : Option Fil) : upd (T fa fg fl) nG x = T fa x fl := by
  funext n
  by_cases h : n = nG
  · subst h; rw [upd_same, T_G]
  · rw [upd_other _ _ h]; simp [T, h]
theorem upd_L (fa fg fl x : Option Fil) : upd (T fa fg fl) nL x = T fa fg x := by
  funext n
  by_cases h : n = nL
  · subst h; rw [upd_same, T_L]
  · rw [upd_other _ _ h]; simp [T, h]

theorem at_A (fa fg fl : Option Fil) : (T fa fg fl).at nA = fa.getD Fil.zero := by simp [Files.at, T_A]
theorem at_G (fa fg fl : Option Fil) : (T fa fg fl).at nG = fg.getD Fil.zero := by simp [Files.at, T_G]
theorem at_L (fa fg fl : Option Fil) : (T fa fg fl).at nL = fl.getD Fil.zero := by simp [Files.at, T_L]

/-- what may be asked of each of the three -/
theorem T_all {fa fg fl : Option Fil} {n : Name} {f : Fil} (h : T fa fg fl n = some f) : (n = nA ∧ fa = some f) ∨ (n = nG ∧ fg = some f) ∨ (n = nL ∧ fl = some f) := by
  unfold T at h
  split at h
  · exact .inl ⟨by assumption, h⟩
  · split at h
    · exact .inr (.inl ⟨by assumption, h⟩)
    · split at h
      · exact .inr (.inr ⟨by assumption, h⟩)
      · cases h

def asked (q : Fil → Bool) : Option Fil → Bool
  | some f => q f
  | none => false

def three (a g l : Bool) : List Name := (if a then [nA] else []) ++ ((if g then [nG] else []) ++ (if l then [nL] else []))

theorem three_mem (a g l : Bool) (n : Name) : n ∈ three a g l ↔ (n = nA ∧ a = true) ∨ (n = nG ∧ g = true) ∨ (n = nL ∧ l = true) := by
  cases a <;> cases g <;> cases l <;> simp [three]
theorem three_rises (a g l : Bool) : (three a g l).Pairwise (· < ·) := by
  have h1 : nA < nG := by decide
  have h2 : nA < nL := by decide
  have h3 : nG < nL := by decide
  cases a <;> cases g <;> cases l <;> simp [three, h1, h2, h3]

theorem names_T {fa fg fl : Option Fil} {q : Fil → Bool} {ks : List Name} (h : NamesOf (T fa fg fl) q ks) : ks = three (asked q fa) (asked q fg) (asked q fl) := by
  refine h.one ⟨three_rises _ _ _, fun n => ?_⟩
  rw [three_mem]
  constructor
  · rintro (⟨rfl, e⟩ | ⟨rfl, e⟩ | ⟨rfl, e⟩)
    · rw [T_A]; cases fa with
      | none => cases e
      | some f => exact ⟨f, rfl, e⟩
    · rw [T_G]; cases fg with
      | none => cases e
      | some f => exact ⟨f, rfl, e⟩
    · rw [T_L]; cases fl with
      | none => cases e
      | some f => exact ⟨f, rfl, e⟩
  · rintro ⟨f, e, hq⟩
    rcases T_all e with ⟨rfl, e2⟩ | ⟨rfl, e2⟩ | ⟨rfl, e2⟩
    · exact .inl ⟨rfl, by rw [e2]; exact hq⟩
    · exact .inr (.inl ⟨rfl, by rw [e2]; exact hq⟩)
    · exact .inr (.inr ⟨rfl, by rw [e2]; exact hq⟩)

/-- what stays of a file that is loose -/
def stayed (b : Bool) (f : Option Fil) (p : Nat) : Option Fil := if b then settled ((f.getD Fil.zero).torn p) else f

theorem crashed_T (fa fg fl : Option Fil) (a g l : Bool) (f : Nat → Nat) :
    crashed (T fa fg fl) (three a g l) f = T (stayed a fa (f 0)) (stayed g fg (f (if a then 1 else 0))) (stayed l fl (f ((if a then 1 else 0) + (if g then 1 else 0)))) := by
  have hAG : (nA == nG) = false := by decide
  have hAL : (nA == nL) = false := by decide
  have hGL : (nG == nL) = false := by decide
  funext n
  unfold crashed
  by_cases hA : n = nA
  · subst hA
    cases a <;> cases g <;> cases l <;> simp [three, T_A, at_A, stayed, ne_GA.symm, ne_LA.symm]
  · by_cases hG : n = nG
    · subst hG
      cases a <;> cases g <;> cases l <;> simp [three, T_G, at_G, stayed, ne_GA, ne_LG.symm, List.idxOf_cons, hAG]
    · by_cases hL : n = nL
      · subst hL
        cases a <;> cases g <;> cases l <;> simp [three, T_L, at_L, stayed, ne_LA, ne_LG, List.idxOf_cons, hAL, hGL]
      · have hn : n ∉ three a g l := by rw [three_mem]; simp [hA, hG, hL]
        simp [hn, T, hA, hG, hL]

end Go.Proofs.Ytjpbniajhkindaa.Dsk

namespace Go.Proofs.Ytjpbniajhkindaa
open Go.RowKit Go.Maps Dsk

theorem DiskAt.mono {w : World} {B : Nat} {o : Tags} {g N N' : Nat} {M : Files} (h : DiskAt w B o g M N) (hN : N ≤ N') : DiskAt w B o g M N' := by
  obtain ⟨b, D, h⟩ := h
  exact ⟨b, D, { h with le := Nat.le_trans h.le hN }⟩
theorem DiskAt.below {w w' : World} {B : Nat} {o : Tags} {g N : Nat} {M : Files} (h : DiskAt w B o g M N) (hb : Below w.heap.size w w') : DiskAt w' B o g M N := by
  obtain ⟨b, D, h⟩ := h
  exact ⟨b, D, h.below hb⟩
theorem DiskAt.owns {w : World} {B : Nat} {o : Tags} {g N : Nat} {M : Files} (h : DiskAt w B o g M N) : ∀ k, o k ≠ none → B ≤ k ∧ k < w.heap.size := by
  obtain ⟨b, D, h⟩ := h
  exact h.own

/-- the disk stands at g with these files; what lay behind B when the walk began lies there still -/
structure Stands (w0 : World) (w : World) (g : Nat) (M : Files) (N : Nat) : Prop where
  disk : ∃ o, DiskAt w w0.heap.size o g M N
  bel : Below w0.heap.size w0 w

theorem Good_T {fa fg fl : Option Fil} (ha : ∀ f, fa = some f → f.later.length ≤ 100) (hg : ∀ f, fg = some f → f.later.length ≤ 100) (hl : ∀ f, fl = some f → f.later.length ≤ 100) : Good (T fa fg fl) := fun n f h => by
  rcases T_all h with ⟨rfl, e⟩ | ⟨rfl, e⟩ | ⟨rfl, e⟩
  · exact ⟨by decide, by have := ha f e; omega⟩
  · exact ⟨by decide, by have := hg f e; omega⟩
  · exact ⟨by decide, by have := hl f e; omega⟩

/-- a literal of bytes is read -/
theorem lit_reads (w : World) (zs : List Int) (fr : Nat × Nat) (hr : ∀ x ∈ zs, 0 ≤ x ∧ x ≤ 255) (hl : zs.length ≤ 1000) : Reads (w.alloc (.cells (zs.map (Value.int .u8)).toArray 5 fr)) (some ⟨w.heap.size, 0, none⟩) zs :=
  reads_row zs (heap_alloc_new w _) (fun i hi => by simp [List.getD, hi]) hr (by omega)

theorem stay_none (w : World) (o : Tags) : Stay w o none [] := ⟨fun i h => absurd h (by simp), fun x hx => by cases hx⟩
theorem stay_lit (w : World) (o : Tags) (zs : List Int) (hr : ∀ x ∈ zs, -9223372036854775808 ≤ x ∧ x ≤ 9223372036854775807) (ho : ∀ k, o k ≠ none → k < w.heap.size) : Stay (w.alloc (.cells (zs.map (Value.int .i64)).toArray 3)) o (some ⟨w.heap.size, 0, none⟩) zs :=
  ⟨fun i h => ⟨w.heap.size, 0, rfl, by simp, by
    cases e : o w.heap.size with
    | none => rfl
    | some t => exact absurd (ho _ (by rw [e]; simp)) (Nat.lt_irrefl _), by
    rw [cell_of_row _ _ _ _ _ _ (heap_alloc_new w _)]
    simp [h]⟩, hr⟩

/-- a row that is nobody's of the disk -/
def RowF (w : World) (B : Nat) (o : Tags) (zs : List Int) (v : Value) : Prop := Row w B zs v ∧ ∀ k, v.ownBlock = some k → o k = none
theorem RowF.of {w w' : World} {o : Tags} {zs : List Int} {v : Value} (h : Row w' w.heap.size zs v) (ho : ∀ k, o k ≠ none → k < w.heap.size) : RowF w' w.heap.size o zs v :=
  ⟨h, fun k e => by
    have := (h.own k e).1
    cases e' : o k with
    | none => rfl
    | some t => have := ho k (by rw [e']; simp); omega⟩
theorem RowF.less {w : World} {B B' : Nat} {o : Tags} {zs : List Int} {v : Value} (h : RowF w B o zs v) (hB : B' ≤ B) : RowF w B' o zs v := ⟨h.1.less hB, h.2⟩
theorem RowF.below {w w' : World} {B : Nat} {o : Tags} {zs : List Int} {v : Value} (h : RowF w B o zs v) (hb : Below w.heap.size w w') : RowF w' B o zs v := ⟨h.1.below hb, h.2⟩
theorem RowF.step {w w' : World} {B : Nat} {o o' : Tags} {zs : List Int} {v : Value} (h : RowF w B o zs v) (hs : Step o w o' w') : RowF w' B o' zs v :=
  ⟨h.1.keep fun k e => hs.block k (h.1.own k e).2 (h.2 k e), fun k e => hs.free k (h.1.own k e).2 (h.2 k e) (by simp [Value.ownBlock])⟩

def kF1 : Fil := ⟨Ver.zero, [⟨true, [120, 121], 2⟩], true⟩
def kF2 : Fil := ⟨⟨true, [120, 121], 2⟩, [], false⟩
def kF3 : Fil := ⟨⟨true, [120, 121, 122, 119], 2⟩, [], true⟩
def kF4 : Fil := ⟨⟨true, [120, 121, 122], 3⟩, [], false⟩
def kF5 : Fil := ⟨⟨true, [120, 121, 122], 3⟩, [⟨true, [113], 1⟩], true⟩
def kF6 : Fil := ⟨⟨true, [120, 121, 122], 3⟩, [⟨true, [113, 114], 1⟩], true⟩

theorem good_none : Good (T none none none) := Good_T (fun f h => by cases h) (fun f h => by cases h) (fun f h => by cases h)
theorem good_one' {F : Fil} (h : F.later.length ≤ 100) : Good (T (some F) none none) := Good_T (fun f e => by cases e; exact h) (fun f h => by cases h) (fun f h => by cases h)

theorem k1 : upd (T none none none) nA (some (((T none none none).at nA).chg ⟨true, [120, 121], ([120, 121] : List Int).length⟩)) = T (some kF1) none none := by rw [upd_A, at_A]; rfl
theorem k2 : upd (T (some kF1) none none) nA (settled (((T (some kF1) none none).at nA).now)) = T (some kF2) none none := by rw [upd_A, at_A]; rfl
theorem k3 : upd (T (some kF2) none none) nA (some (((T (some kF2) none none).at nA).app [122, 119])) = T (some kF3) none none := by rw [upd_A, at_A]; rfl
theorem k4 : crashed (T (some kF3) none none) (three (asked (fun f => f.loose) (some kF3)) (asked (fun f => f.loose) none) (asked (fun f => f.loose) none)) (stayN [1]) = T (some kF4) none none := by rw [crashed_T]; rfl
theorem k5 : upd (T (some kF4) none none) nA (some (((T (some kF4) none none).at nA).chg ⟨true, [113], ([113] : List Int).length⟩)) = T (some kF5) none none := by rw [upd_A, at_A]; rfl
theorem k6 : upd (T (some kF5) none none) nA (some (((T (some kF5) none none).at nA).app [114])) = T (some kF6) none none := by rw [upd_A, at_A]; rfl
theorem k7 : crashed (T (some kF6) none none) (three (asked (fun f => f.loose) (some kF6)) (asked (fun f => f.loose) none) (asked (fun f => f.loose) none)) (stayN []) = T (some kF4) none none := by rw [crashed_T]; rfl
theorem k8 : crashed (T (some kF4) none none) (three (asked (fun f => f.loose) (some kF4)) (asked (fun f => f.loose) none) (asked (fun f => f.loose) none)) (stayN [9]) = T (some kF4) none none := by rw [crashed_T]; rfl
theorem kF4n : kF4.now = ⟨true, [120, 121, 122], 3⟩ := rfl
theorem xyz_str : strOfNums [120, 121, 122] = ⟨#[120, 121, 122]⟩ := by rfl

end Go.Proofs.Ytjpbniajhkindaa
