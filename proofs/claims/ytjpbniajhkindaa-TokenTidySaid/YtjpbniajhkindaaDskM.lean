/- Plain mathematics of layer 9: a disk's files, what is sure of them and the versions since. No program is spoken of here. -/
import Derived.Sort.KeysCollected
namespace Go.Proofs.Ytjpbniajhkindaa.Dsk

/-- a version of a file: is it there, its bytes, and how many of them came as a whole -/
structure Ver where
  there : Bool
  bs : List Int
  whole : Nat

/-- a file: what is sure of it, the versions since, and whether something is loose -/
structure Fil where
  sure : Ver
  later : List Ver
  loose : Bool

def Ver.zero : Ver := ⟨false, [], 0⟩
def Fil.zero : Fil := ⟨Ver.zero, [], false⟩

def Ver.ok (v : Ver) : Prop := v.whole ≤ v.bs.length ∧ v.bs.length ≤ 1048576 ∧ ∀ x ∈ v.bs, 0 ≤ x ∧ x ≤ 255
def Fil.ok (f : Fil) : Prop := f.sure.ok ∧ ∀ v ∈ f.later, v.ok

theorem Ver.zero_ok : Ver.zero.ok := ⟨Nat.le_refl _, by simp [Ver.zero], fun x hx => by cases hx⟩
theorem Fil.zero_ok : Fil.zero.ok := ⟨Ver.zero_ok, fun v hv => by cases hv⟩

/-- the last version -/
def Fil.now (f : Fil) : Ver := f.later.getLast?.getD f.sure

theorem Fil.now_nil {f : Fil} (h : f.later = []) : f.now = f.sure := by simp [Fil.now, h]
theorem Fil.now_some {f : Fil} {l : List Ver} {v : Ver} (h : f.later = l ++ [v]) : f.now = v := by simp [Fil.now, h]
theorem Fil.now_ok {f : Fil} (h : f.ok) : f.now.ok := by
  unfold Fil.now
  cases hl : f.later.getLast? with
  | none => exact h.1
  | some v => exact h.2 v (List.mem_of_getLast? hl)

abbrev Name := List UInt8
abbrev Files := Name → Option Fil

/-- the file of a name: the zero one, if there is none -/
def Files.at (M : Files) (n : Name) : Fil := (M n).getD Fil.zero
def upd (M : Files) (n : Name) (x : Option Fil) : Files := fun m => if m = n then x else M m
theorem upd_same (M : Files) (n : Name) (x : Option Fil) : upd M n x n = x := by simp [upd]
theorem upd_other (M : Files) {n m : Name} (x : Option Fil) (h : m ≠ n) : upd M n x m = M m := by simp [upd, h]
theorem upd_at (M : Files) (n : Name) (f : Fil) : (upd M n (some f)).at n = f := by simp [Files.at, upd]
theorem upd_at_other (M : Files) {n m : Name} (x : Option Fil) (h : m ≠ n) : (upd M n x).at m = M.at m := by simp [Files.at, upd, h]

/-- bytes behind the last version's -/
def Ver.app (v : Ver) (zs : List Int) : Ver := { v with bs := v.bs ++ zs }
def Fil.app (f : Fil) (zs : List Int) : Fil :=
  if f.later = [] then { f with sure := f.sure.app zs, loose := true } else { f with later := f.later.dropLast ++ [f.now.app zs], loose := true }
theorem Fil.app_nil {f : Fil} (h : f.later = []) (zs : List Int) : f.app zs = ⟨f.sure.app zs, [], true⟩ := by
  simp [Fil.app, h]
theorem Fil.app_some {f : Fil} {l : List Ver} {v : Ver} (h : f.later = l ++ [v]) (zs : List Int) : f.app zs = ⟨f.sure, l ++ [v.app zs], true⟩ := by
  have hn := Fil.now_some h
  simp [Fil.app, h, hn]

/-- one more version -/
def Fil.chg (f : Fil) (v : Ver) : Fil := ⟨f.sure, f.later ++ [v], true⟩
theorem Fil.chg_ok {f : Fil} {v : Ver} (h : f.ok) (hv : v.ok) : (f.chg v).ok := ⟨h.1, fun x hx => by
  rcases List.mem_append.1 hx with hx | hx
  · exact h.2 x hx
  · simp at hx; subst hx; exact hv⟩

/-- a file that is sure as v is; none, if v is not there -/
def settled (v : Ver) : Option Fil := if v.there then some ⟨⟨v.there, v.bs, v.bs.length⟩, [], false⟩ else none

def Ver.appended (v : Ver) : Nat := v.bs.length - v.whole

/-- which version stays, and how many parts of it -/
def tornGo : Nat → Ver → List Ver → Nat × Ver
  | p, v, [] => (p, v)
  | p, v, x :: r => if p ≤ v.appended then (p, v) else tornGo (p - (v.appended + 1)) x r
def tornOf (p : Nat) (v : Ver) : Ver := { v with bs := v.bs.take (v.whole + min p v.appended) }
def Fil.torn (f : Fil) (p : Nat) : Ver := tornOf (tornGo p f.sure f.later).1 (tornGo p f.sure f.later).2

theorem tornGo_mem : ∀ (p : Nat) (v : Ver) (l : List Ver), (tornGo p v l).2 = v ∨ (tornGo p v l).2 ∈ l
  | p, v, [] => .inl rfl
  | p, v, x :: r => by
    unfold tornGo
    split
    · exact .inl rfl
    · rcases tornGo_mem (p - (v.appended + 1)) x r with h | h
      · rw [h]; exact .inr (.head _)
      · exact .inr (.tail _ h)
theorem tornGo_le : ∀ (p : Nat) (v : Ver) (l : List Ver), (tornGo p v l).1 ≤ p
  | p, v, [] => Nat.le_refl _
  | p, v, x :: r => by
    unfold tornGo
    split
    · exact Nat.le_refl _
    · have := tornGo_le (p - (v.appended + 1)) x r
      omega

/-- the names of the files that are asked for: in order, no name twice -/
def NamesOf (M : Files) (q : Fil → Bool) (ks : List Name) : Prop := ks.Pairwise (· < ·) ∧ ∀ n, n ∈ ks ↔ ∃ f, M n = some f ∧ q f = true

theorem sorted_ext : ∀ {a b : List Name}, a.Pairwise (· < ·) → b.Pairwise (· < ·) → (∀ n, n ∈ a ↔ n ∈ b) → a = b := by
  intro a b ha hb h
  refine List.Perm.eq_of_pairwise (le := fun x y : Name => x < y) (fun x y _ _ h1 h2 => absurd (List.lt_trans h1 h2) (List.lt_irrefl x)) ha hb ?_
  have nd : ∀ {l : List Name}, l.Pairwise (· < ·) → l.Nodup := fun h => h.imp fun {x y} hxy => by
    intro e; subst e; exact List.lt_irrefl _ hxy
  exact (List.perm_ext_iff_of_nodup (nd ha) (nd hb)).2 h

theorem NamesOf.one {M : Files} {q : Fil → Bool} {a b : List Name} (ha : NamesOf M q a) (hb : NamesOf M q b) : a = b :=
  sorted_ext ha.1 hb.1 fun n => (ha.2 n).trans (hb.2 n).symm

theorem NamesOf.nodup {M : Files} {q : Fil → Bool} {a : List Name} (ha : NamesOf M q a) : a.Nodup := ha.1.imp fun {x y} hxy => by
  intro e; subst e; exact List.lt_irrefl _ hxy

/-- a sorted list without a name twice rises -/
theorem rises {l : List Name} (hs : l.Pairwise (fun a b => leB a b = true)) (hn : l.Nodup) : l.Pairwise (· < ·) := by
  refine (List.Pairwise.and hs hn).imp fun {a b} h => ?_
  have h1 : a ≤ b := by simpa [leB] using h.1
  rcases List.le_iff_lt_or_eq.1 h1 with h2 | h2
  · exact h2
  · exact absurd h2 h.2

/-- what a crash makes of the files: of those that are loose so many parts stay -/
def crashed (M : Files) (ks : List Name) (stay : Nat → Nat) : Files := fun n => if n ∈ ks then settled ((M.at n).torn (stay (ks.idxOf n))) else M n

end Go.Proofs.Ytjpbniajhkindaa.Dsk
