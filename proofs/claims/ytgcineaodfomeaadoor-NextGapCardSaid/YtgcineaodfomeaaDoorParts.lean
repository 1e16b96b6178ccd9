/- An expression's text: its parts, the names; what Parse tells of any text. -/
import Derived.Test.YtgcineaodfomeaaDoorExpr
import Derived.Test.YtgcineaodfomeaaDoorBackM
namespace Go.Proofs.YtgcineaodfomeaaDoor.Cron
open Go

/-! a text's parts: between blanks -/
def parts (s : List UInt8) : List (List UInt8) := Lib.split s [32]
theorem parts_one (a : List UInt8) (h : 32 ∉ a) : parts a = [a] := by
  unfold parts Lib.split
  rw [Lib.count_miss (by rw [Lib.index_one]; exact Fld.byte_gone a 32 h)]
  rfl
theorem parts_next (a r : List UInt8) (h : 32 ∉ a) : parts (a ++ 32 :: r) = a :: parts r := by
  have hi : Lib.index (a ++ 32 :: r) [32] = a.length := by rw [Lib.index_one]; exact Fld.byte_here a r 32 h
  unfold parts Lib.split
  rw [Lib.count_hit (by simp) hi, Nat.add_comm, Lib.splitK, hi]
  have : ((a.length : Int) == -1) = false := beq_eq_false_iff_ne.2 (by omega)
  simp [this]
/-- the first error of the first k fields -/
def errF (ps : List (List UInt8)) : Nat → Nat
  | 0 => 0
  | k + 1 => if errF ps k = 0 then Fld.err k (ps.getD k []) else errF ps k
/-- five parts, none empty -/
def whole (l : List UInt8) : Bool := decide ((parts l).length = 5) && !((parts l).contains [])
def spErr (l : List UInt8) : Nat := if whole l = true then errF (parts l) 5 else 70
def spB (l : List UInt8) (k : Nat) : Nat := if spErr l = 0 then Fld.allows k ((parts l).getD k []) else 0
def spS (l : List UInt8) (k : Nat) : Bool := if spErr l = 0 then Fld.free k ((parts l).getD k []) else false
/-- the names, each with its text behind -/
def tab : List (List UInt8) :=
  [[64, 104, 111, 117, 114, 108, 121], [48, 32, 42, 32, 42, 32, 42, 32, 42],
   [64, 100, 97, 105, 108, 121], [48, 32, 48, 32, 42, 32, 42, 32, 42],
   [64, 109, 105, 100, 110, 105, 103, 104, 116], [48, 32, 48, 32, 42, 32, 42, 32, 42],
   [64, 119, 101, 101, 107, 108, 121], [48, 32, 48, 32, 42, 32, 42, 32, 48],
   [64, 109, 111, 110, 116, 104, 108, 121], [48, 32, 48, 32, 49, 32, 42, 32, 42],
   [64, 121, 101, 97, 114, 108, 121], [48, 32, 48, 32, 49, 32, 49, 32, 42],
   [64, 97, 110, 110, 117, 97, 108, 108, 121], [48, 32, 48, 32, 49, 32, 49, 32, 42]]
/-- which name a text is, from the i-th on -/
def seek (l : List UInt8) : Nat → Nat → Option (List UInt8)
  | 0, _ => none
  | n + 1, i => if tab.getD (2 * i) [] = l then some (tab.getD (2 * i + 1) []) else seek l n (i + 1)
def nameOf (l : List UInt8) : Option (List UInt8) := seek l 7 0
def nmB (l : List UInt8) (k : Nat) : Nat := match nameOf l with | some t => spB t k | none => 0
def nmS (l : List UInt8) (k : Nat) : Bool := match nameOf l with | some t => spS t k | none => false
/-- what Parse tells -/
def pErr (l : List UInt8) : Nat := if 400 < l.length then 3 else if Lib.hasPrefix l [64] = true then (if nameOf l = none then 70 else 0) else spErr l
def pB (l : List UInt8) (k : Nat) : Nat := if 400 < l.length then 0 else if Lib.hasPrefix l [64] = true then nmB l k else spB l k
def pS (l : List UInt8) (k : Nat) : Bool := if 400 < l.length then false else if Lib.hasPrefix l [64] = true then nmS l k else spS l k

/-! the seven names' texts are whole -/
theorem tab_ok : ∀ i : Fin 7, spErr (tab.getD (2 * i.val + 1) []) = 0 ∧ spB (tab.getD (2 * i.val + 1) []) 0 ≠ 0 := by decide +kernel
theorem seek_ok {l t : List UInt8} : ∀ n i, n + i = 7 → seek l n i = some t → spErr t = 0 ∧ spB t 0 ≠ 0
  | 0, _, _, h => by cases h
  | n + 1, i, hi, h => by
    unfold seek at h
    split at h
    · cases h
      exact tab_ok ⟨i, by omega⟩
    · exact seek_ok n (i + 1) (by omega) h
theorem name_ok {l t : List UInt8} (h : nameOf l = some t) : spErr t = 0 ∧ spB t 0 ≠ 0 := seek_ok 7 0 rfl h
theorem errF_ok {ps : List (List UInt8)} : ∀ k, errF ps k = 0 → ∀ j, j < k → Fld.err j (ps.getD j []) = 0
  | 0, _, j, hj => absurd hj (by omega)
  | k + 1, h, j, hj => by
    unfold errF at h
    split at h
    · rename_i h0
      rcases Nat.lt_or_ge j k with h1 | h1
      · exact errF_ok k h0 j h1
      · rw [show j = k by omega]; exact h
    · exact absurd h (by assumption)
theorem errF_zero {ps : List (List UInt8)} : ∀ k, (∀ j, j < k → Fld.err j (ps.getD j []) = 0) → errF ps k = 0
  | 0, _ => rfl
  | k + 1, h => by
    unfold errF
    rw [if_pos (errF_zero k fun j hj => h j (by omega))]
    exact h k (by omega)
theorem errF_bad {ps : List (List UInt8)} {i n : Nat} (h0 : errF ps i = 0) (hn : Fld.err i (ps.getD i []) = n) (hz : n ≠ 0) : ∀ j, errF ps (i + 1 + j) = n
  | 0 => by
    show errF ps (i + 1) = n
    unfold errF
    rw [if_pos h0, hn]
  | j + 1 => by
    have ih := errF_bad h0 hn hz j
    show (if errF ps (i + 1 + j) = 0 then _ else errF ps (i + 1 + j)) = n
    rw [ih, if_neg hz]
theorem spB_lt (l : List UInt8) (k : Nat) (hk : k < 5) : spB l k < 2 ^ 64 := by
  unfold spB
  split
  · exact Fld.allows_lt (by omega) _
  · decide
theorem nmB_lt (l : List UInt8) (k : Nat) (hk : k < 5) : nmB l k < 2 ^ 64 := by
  unfold nmB
  split
  · exact spB_lt _ k hk
  · decide
theorem pB_lt (l : List UInt8) (k : Nat) (hk : k < 5) : pB l k < 2 ^ 64 := by
  unfold pB
  split
  · decide
  · split
    · exact nmB_lt l k hk
    · exact spB_lt l k hk
theorem sp_may {l : List UInt8} (h : spErr l = 0) : may (spB l) = true := by
  rw [may_iff]
  intro k hk
  unfold spB
  rw [if_pos h]
  unfold spErr at h
  split at h
  · exact Fld.may_allows (by omega) (errF_ok 5 h k hk)
  · cases h
/-- a text's expression may be -/
theorem p_may {l : List UInt8} (h : pErr l = 0) : may (pB l) = true := by
  unfold pErr at h
  split at h
  · cases h
  · rename_i h1
    split at h
    · rename_i h2
      split at h
      · cases h
      · rename_i h3
        cases e : nameOf l with
        | none => exact absurd e h3
        | some t =>
          have := sp_may (name_ok e).1
          rw [may_iff] at this ⊢
          intro k hk
          have := this k hk
          unfold pB nmB
          rw [if_neg h1, if_pos h2, e]
          exact this
    · rename_i h2
      have := sp_may h
      rw [may_iff] at this ⊢
      intro k hk
      have := this k hk
      unfold pB
      rw [if_neg h1, if_neg h2]
      exact this
end Go.Proofs.YtgcineaodfomeaaDoor.Cron
