/- Plain mathematics of DiskTorn: the log as it grows, and what a crash leaves. -/
import Derived.Test.YtchmipeehhbniaaDskT
namespace Go.Proofs.Ytchmipeehhbniaa.Dsk

/-- the log behind k rows, 'all' its bytes, 's' of them sure -/
def LogIs (synced : Int) (k : Nat) (all : List Int) (s : Nat) (lo : Option Fil) : Prop :=
  (k = 0 ∧ lo = none ∧ s = 0 ∧ all = []) ∨
  (0 < k ∧ synced < 0 ∧ s = 0 ∧ ∃ wl, wl ≤ all.length ∧ lo = some ⟨Ver.zero, [⟨true, all, wl⟩], true⟩) ∨
  (0 < k ∧ 0 ≤ synced ∧ s ≤ all.length ∧ ∃ b, lo = some ⟨⟨true, all, s⟩, [], b⟩ ∧ (b = false → s = all.length))

/-- the log once a row stands behind -/
def LogMid (synced : Int) (k : Nat) (all : List Int) (s : Nat) (F : Fil) : Prop :=
  (k = 0 ∧ s = 0 ∧ F = ⟨Ver.zero, [⟨true, all, all.length⟩], true⟩) ∨
  (0 < k ∧ synced < 0 ∧ s = 0 ∧ ∃ wl, wl ≤ all.length ∧ F = ⟨Ver.zero, [⟨true, all, wl⟩], true⟩) ∨
  (0 < k ∧ 0 ≤ synced ∧ s ≤ all.length ∧ F = ⟨⟨true, all, s⟩, [], true⟩)

theorem LogMid.now {synced : Int} {k : Nat} {all : List Int} {s : Nat} {F : Fil} (h : LogMid synced k all s F) : F.now.there = true ∧ F.now.bs = all ∧ F.later.length ≤ 1 := by
  rcases h with ⟨_, _, rfl⟩ | ⟨_, _, _, wl, _, rfl⟩ | ⟨_, _, _, rfl⟩ <;> exact ⟨rfl, rfl, by simp⟩

theorem LogMid.sync {synced : Int} {k : Nat} {all : List Int} {s : Nat} {F : Fil} (h : LogMid synced k all s F) (hk : (k : Int) ≤ synced) : LogIs synced (k + 1) all all.length (settled F.now) := by
  have h0 : 0 ≤ synced := by omega
  rcases h with ⟨_, _, rfl⟩ | ⟨_, h1, _, wl, _, rfl⟩ | ⟨_, _, _, rfl⟩
  · exact .inr (.inr ⟨by omega, h0, Nat.le_refl _, false, rfl, fun _ => rfl⟩)
  · omega
  · exact .inr (.inr ⟨by omega, h0, Nat.le_refl _, false, rfl, fun _ => rfl⟩)

theorem LogMid.stay {synced : Int} {k : Nat} {all : List Int} {s : Nat} {F : Fil} (h : LogMid synced k all s F) (hk : ¬ (k : Int) ≤ synced) : LogIs synced (k + 1) all s (some F) := by
  rcases h with ⟨h1, h2, rfl⟩ | ⟨_, h1, h2, wl, h3, rfl⟩ | ⟨_, h1, h2, rfl⟩
  · exact .inr (.inl ⟨by omega, by omega, h2, _, Nat.le_refl _, rfl⟩)
  · exact .inr (.inl ⟨by omega, h1, h2, wl, h3, rfl⟩)
  · exact .inr (.inr ⟨by omega, h1, h2, true, rfl, fun e => by cases e⟩)

theorem LogIs.parts {synced : Int} {k : Nat} {all : List Int} {s : Nat} {lo : Option Fil} (h : LogIs synced k all s lo) :
    (lo = none ∧ k = 0 ∧ s = 0 ∧ all = []) ∨ ∃ F, lo = some F ∧ F.now.there = true ∧ F.now.bs = all ∧ F.later.length ≤ 1 ∧ ∀ zs, LogMid synced k (all ++ zs) s (F.app zs) := by
  rcases h with ⟨h1, h2, h3, h4⟩ | ⟨h1, h2, h3, wl, h4, rfl⟩ | ⟨h1, h2, h3, b, rfl, h4⟩
  · exact .inl ⟨h2, h1, h3, h4⟩
  · refine .inr ⟨_, rfl, rfl, rfl, by simp, fun zs => .inr (.inl ⟨h1, h2, h3, wl, by simp; omega, ?_⟩)⟩
    rw [Fil.app_some (l := []) (v := ⟨true, all, wl⟩) rfl]
    rfl
  · refine .inr ⟨_, rfl, rfl, rfl, by simp, fun zs => .inr (.inr ⟨h1, h2, by simp; omega, ?_⟩)⟩
    rw [Fil.app_nil rfl]
    rfl

theorem LogIs.sure {synced : Int} {k : Nat} {all : List Int} {s : Nat} {lo : Option Fil} (h : LogIs synced k all s lo) : s ≤ all.length := by
  rcases h with ⟨_, _, h, _⟩ | ⟨_, _, h, _⟩ | ⟨_, _, h, _⟩ <;> omega

theorem LogIs.later {synced : Int} {k : Nat} {all : List Int} {s : Nat} {lo : Option Fil} (h : LogIs synced k all s lo) : ∀ f, lo = some f → f.later.length ≤ 100 := fun f e => by
  rcases h with ⟨_, h, _⟩ | ⟨_, _, _, wl, _, h⟩ | ⟨_, _, _, b, h, _⟩
  · rw [h] at e; cases e
  · rw [h] at e; cases e; simp
  · rw [h] at e; cases e; simp

/-- a file that is sure, or none -/
def opt (is : Bool) (b : List Int) : Option Fil := if is then some ⟨⟨true, b, b.length⟩, [], false⟩ else none

theorem opt_now {is : Bool} {b : List Int} (h : is = false → b = []) : ((opt is b).getD Fil.zero).now = ⟨is, b, b.length⟩ := by
  cases is
  · rw [h rfl]; rfl
  · rfl
theorem opt_sure {is : Bool} {b : List Int} (h : is = false → b = []) : ((opt is b).getD Fil.zero).sure = ⟨is, b, b.length⟩ := by
  cases is
  · rw [h rfl]; rfl
  · rfl
theorem opt_loose (is : Bool) (b : List Int) : asked (fun f => f.loose) (opt is b) = false := by cases is <;> rfl
theorem opt_later (is : Bool) (b : List Int) : ∀ f, opt is b = some f → f.later.length ≤ 100 := fun f e => by
  cases is
  · cases e
  · cases e; simp

/-- what is told of the log behind a crash -/
structure LeftL (synced : Int) (k : Nat) (all : List Int) (s : Nat) (lb : Bool) (p : Nat) (is : Bool) (b : List Int) : Prop where
  nil : is = false → b = []
  le : b.length ≤ all.length
  take : b = all.take b.length
  there : 0 < k → 0 ≤ synced → is = true ∧ s ≤ b.length
  just : lb = true → 0 ≤ synced → 0 < k → b.length = s + min p (all.length - s)

theorem left {synced : Int} {k : Nat} {all : List Int} {s : Nat} {lo : Option Fil} (h : LogIs synced k all s lo) (p : Nat) :
    ∃ is b, stayed (asked (fun f => f.loose) lo) lo p = opt is b ∧ LeftL synced k all s (asked (fun f => f.loose) lo) p is b := by
  rcases h with ⟨h1, rfl, h3, h4⟩ | ⟨h1, h2, h3, wl, h4, rfl⟩ | ⟨h1, h2, h3, b, rfl, h4⟩
  · exact ⟨false, [], rfl, fun _ => rfl, by simp, by simp, fun h => by omega, fun h => by cases h⟩
  · cases p with
    | zero => exact ⟨false, [], rfl, fun _ => rfl, by simp, by simp, fun _ h => by omega, fun _ h => by omega⟩
    | succ p =>
      refine ⟨true, all.take (wl + min p (all.length - wl)), ?_, fun e => (by cases e), by simp; omega, ?_, fun _ h => by omega, fun _ h => by omega⟩
      · simp [stayed, asked, Fil.torn, tornGo, Ver.zero, Ver.appended, tornOf, settled, opt]
      · rw [List.length_take, ← List.take_take]
        simp
  · cases b
    · refine ⟨true, all, ?_, fun e => (by cases e), Nat.le_refl _, by simp, fun _ _ => ⟨rfl, h3⟩, fun e => by cases e⟩
      rw [h4 rfl]
      rfl
    · refine ⟨true, all.take (s + min p (all.length - s)), ?_, fun e => (by cases e), by simp; omega, ?_, fun _ _ => ⟨rfl, by simp; omega⟩, fun _ _ _ => by simp; omega⟩
      · simp [stayed, asked, Fil.torn, tornGo, Ver.appended, tornOf, settled, opt]
      · rw [List.length_take, ← List.take_take]
        simp

def first : List Int := [102, 105, 114, 115, 116]
def fA0 : Fil := ⟨⟨true, first, 5⟩, [], false⟩
def fA (zs : List Int) : Fil := ⟨⟨true, first, 5⟩, [⟨true, zs, zs.length⟩], true⟩
def fG (zs : List Int) : Fil := ⟨⟨true, zs, zs.length⟩, [Ver.zero], true⟩

theorem left_A (zs : List Int) (p : Nat) : stayed true (some (fA zs)) p = opt true (if p = 0 then first else zs) := by
  cases p with
  | zero => rfl
  | succ p => simp [stayed, fA, Fil.torn, tornGo, Ver.appended, tornOf, settled, opt, first]
theorem left_G (zs : List Int) (p : Nat) : stayed true (some (fG zs)) p = opt (decide (p = 0)) (if p = 0 then zs else []) := by
  cases p with
  | zero => simp [stayed, fG, Fil.torn, tornGo, Ver.appended, tornOf, settled, opt]
  | succ p => simp [stayed, fG, Fil.torn, tornGo, Ver.appended, tornOf, settled, opt, Ver.zero]

end Go.Proofs.Ytchmipeehhbniaa.Dsk
