/- Plain mathematics of layer 9's statements: a disk of three files at most. -/
import Derived.Test.YtchmipeehhbniaaDskM
import Derived.Lib.Hide
namespace Go.Proofs.Ytchmipeehhbniaa.Dsk

def nA : Name := [97]
def nG : Name := [103, 111, 110, 101]
def nL : Name := [108, 111, 103]

/-- the files 'a', 'gone', 'log' -/
def T (fa fg fl : Option Fil) : Files := fun n => if n = nA then fa else if n = nG then fg else if n = nL then fl else none

theorem ne_GA : nG ≠ nA := by decide
theorem ne_LA : nL ≠ nA := by decide
theorem ne_LG : nL ≠ nG := by decide

theorem T_A (fa fg fl : Option Fil) : T fa fg fl nA = fa := by simp [T]
theorem T_G (fa fg fl : Option Fil) : T fa fg fl nG = fg := by simp [T, ne_GA]
theorem T_L (fa fg fl : Option Fil) : T fa fg fl nL = fl := by simp [T, ne_LA, ne_LG]
theorem T_none : (fun _ => none : Files) = T none none none := by funext n; simp [T]

theorem upd_A (fa fg fl x : Option Fil) : upd (T fa fg fl) nA x = T x fg fl := by
  funext n; unfold upd T; split <;> rfl
theorem upd_G (fa fg fl x : Option Fil) : upd (T fa fg fl) nG x = T fa x fl := by
  funext n
  by_cases h : n = nG
  · subst h; rw [upd_same, T_G]
  · rw [upd_other _ _ h]; simp [T, h]
theorem upd_L (fa fg fl x : Option Fil) : upd (T fa fg fl) nL x = T fa fg x := by
  funext n
  by_cases h : n = nL
  · subst h; rw [upd_same, T_L]
  · rw [upd_other _ _ h]; simp [T, h]

theorem at_A (fa fg fl : Option Fil) : (T fa fg fl).at nA = fa.getD Fil.zero := by simp [Files.at, T_A]
theorem at_G (fa fg fl : Option Fil) : (T fa fg fl).at nG = fg.getD Fil.zero := by simp [Files.at, T_G]
theorem at_L (fa fg fl : Option Fil) : (T fa fg fl).at nL = fl.getD Fil.zero := by simp [Files.at, T_L]

/-- what may be asked of each of the three -/
theorem T_all {fa fg fl : Option Fil} {n : Name} {f : Fil} (h : T fa fg fl n = some f) : (n = nA ∧ fa = some f) ∨ (n = nG ∧ fg = some f) ∨ (n = nL ∧ fl = some f) := by
  unfold T at h
  split at h
  · exact .inl ⟨by assumption, h⟩
  · split at h
    · exact .inr (.inl ⟨by assumption, h⟩)
    · split at h
      · exact .inr (.inr ⟨by assumption, h⟩)
      · cases h

def asked (q : Fil → Bool) : Option Fil → Bool
  | some f => q f
  | none => false

def three (a g l : Bool) : List Name := (if a then [nA] else []) ++ ((if g then [nG] else []) ++ (if l then [nL] else []))

theorem three_mem (a g l : Bool) (n : Name) : n ∈ three a g l ↔ (n = nA ∧ a = true) ∨ (n = nG ∧ g = true) ∨ (n = nL ∧ l = true) := by
  cases a <;> cases g <;> cases l <;> simp [three]
theorem three_rises (a g l : Bool) : (three a g l).Pairwise (· < ·) := by
  have h1 : nA < nG := by decide
  have h2 : nA < nL := by decide
  have h3 : nG < nL := by decide
  cases a <;> cases g <;> cases l <;> simp [three, h1, h2, h3]

theorem names_T {fa fg fl : Option Fil} {q : Fil → Bool} {ks : List Name} (h : NamesOf (T fa fg fl) q ks) : ks = three (asked q fa) (asked q fg) (asked q fl) := by
  refine h.one ⟨three_rises _ _ _, fun n => ?_⟩
  rw [three_mem]
  constructor
  · rintro (⟨rfl, e⟩ | ⟨rfl, e⟩ | ⟨rfl, e⟩)
    · rw [T_A]; cases fa with
      | none => cases e
      | some f => exact ⟨f, rfl, e⟩
    · rw [T_G]; cases fg with
      | none => cases e
      | some f => exact ⟨f, rfl, e⟩
    · rw [T_L]; cases fl with
      | none => cases e
      | some f => exact ⟨f, rfl, e⟩
  · rintro ⟨f, e, hq⟩
    rcases T_all e with ⟨rfl, e2⟩ | ⟨rfl, e2⟩ | ⟨rfl, e2⟩
    · exact .inl ⟨rfl, by rw [e2]; exact hq⟩
    · exact .inr (.inl ⟨rfl, by rw [e2]; exact hq⟩)
    · exact .inr (.inr ⟨rfl, by rw [e2]; exact hq⟩)

/-- what stays of a file that is loose -/
def stayed (b : Bool) (f : Option Fil) (p : Nat) : Option Fil := if b then settled ((f.getD Fil.zero).torn p) else f

theorem crashed_T (fa fg fl : Option Fil) (a g l : Bool) (f : Nat → Nat) :
    crashed (T fa fg fl) (three a g l) f = T (stayed a fa (f 0)) (stayed g fg (f (if a then 1 else 0))) (stayed l fl (f ((if a then 1 else 0) + (if g then 1 else 0)))) := by
  have hAG : (nA == nG) = false := by decide
  have hAL : (nA == nL) = false := by decide
  have hGL : (nG == nL) = false := by decide
  funext n
  unfold crashed
  by_cases hA : n = nA
  · subst hA
    cases a <;> cases g <;> cases l <;> simp [three, T_A, at_A, stayed, ne_GA.symm, ne_LA.symm]
  · by_cases hG : n = nG
    · subst hG
      cases a <;> cases g <;> cases l <;> simp [three, T_G, at_G, stayed, ne_GA, ne_LG.symm, List.idxOf_cons, hAG]
    · by_cases hL : n = nL
      · subst hL
        cases a <;> cases g <;> cases l <;> simp [three, T_L, at_L, stayed, ne_LA, ne_LG, List.idxOf_cons, hAL, hGL]
      · have hn : n ∉ three a g l := by rw [three_mem]; simp [hA, hG, hL]
        simp [hn, T, hA, hG, hL]

end Go.Proofs.Ytchmipeehhbniaa.Dsk
