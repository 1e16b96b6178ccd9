/- Fields of expressions, as mathematics: a text's items, the numbers that they allow. -/
import Derived.Lib.Split
import Derived.Lib.SplitLaws
import Derived.Lib.IndexBytes
import Derived.Lib.Fold
import Derived.Lib.ParseIntBCases
import Derived.Lib.Strings
namespace Go.Proofs.YtpbnjibomdilhaaGreatDoor.Fld
open Go

def lo (k : Nat) : Nat := [0, 0, 1, 1, 0].getD k 0
def hi (k : Nat) : Nat := [59, 23, 31, 12, 6].getD k 0
def top (k : Nat) : Nat := if k = 4 then 7 else hi k
def names (k : Nat) : List (List UInt8) :=
  if k = 3 then [[106, 97, 110], [102, 101, 98], [109, 97, 114], [97, 112, 114], [109, 97, 121], [106, 117, 110], [106, 117, 108], [97, 117, 103], [115, 101, 112], [111, 99, 116], [110, 111, 118], [100, 101, 99]]
  else if k = 4 then [[115, 117, 110], [109, 111, 110], [116, 117, 101], [119, 101, 100], [116, 104, 117], [102, 114, 105], [115, 97, 116], [], [], [], [], []]
  else [[], [], [], [], [], [], [], [], [], [], [], []]
/-- a name, and three bytes: the same, but for great and small letters -/
def fold (n s : List UInt8) : Bool := s.all (fun b => decide (b.toNat < 128)) && Lib.equalFold n s
def nameAt (k : Nat) (s : List UInt8) : Option Nat := if s.length = 3 then (List.range 12).find? (fun i => fold ((names k).getD i []) s) else none
def plainNum (s : List UInt8) : Option Nat := match Lib.parseUintB 64 s with | .ok u => if s.length ≤ 2 then some u else none | _ => none
def number (k : Nat) (s : List UInt8) : Option Nat := match nameAt k s with | some i => some (lo k + i) | none => plainNum s

theorem nameAt_some {k : Nat} {s : List UInt8} {i : Nat} (h3 : s.length = 3) (hi : i < 12) (h : fold ((names k).getD i []) s = true) (hb : ∀ j, j < i → fold ((names k).getD j []) s = false) : nameAt k s = some i := by
  unfold nameAt
  rw [if_pos h3, List.find?_range_eq_some]
  exact ⟨h, by simpa using hi, fun j hj => by rw [hb j hj]; rfl⟩
theorem nameAt_none {k : Nat} {s : List UInt8} (hb : ∀ j, j < 12 → fold ((names k).getD j []) s = false) : nameAt k s = none := by
  unfold nameAt
  split
  · rw [List.find?_range_eq_none]
    intro j hj
    rw [hb j hj]; rfl
  · rfl
theorem nameAt_not {k : Nat} {s : List UInt8} (h3 : s.length ≠ 3) : nameAt k s = none := by
  unfold nameAt
  rw [if_neg h3]

structure Item where
  first : Nat
  last : Nat
  step : Nat
def span (t : List UInt8) : List UInt8 := (Lib.cut t [47]).1
def stepped (t : List UInt8) : Bool := (Lib.cut t [47]).2.2
def stepText (t : List UInt8) : List UInt8 := (Lib.cut t [47]).2.1
def ranged (t : List UInt8) : Bool := (Lib.cut (span t) [45]).2.2
def left (t : List UInt8) : List UInt8 := (Lib.cut (span t) [45]).1
def right (t : List UInt8) : List UInt8 := (Lib.cut (span t) [45]).2.1
/-- what an item says ahead of its step: whether it is one, first, last -/
def ends (k : Nat) (t : List UInt8) : Bool × Nat × Nat :=
  if span t = [42] then (true, lo k, hi k)
  else if ranged t = true then ((number k (left t)).isSome && (number k (right t)).isSome, (number k (left t)).getD 0, (number k (right t)).getD 0)
  else ((number k (span t)).isSome && !stepped t, (number k (span t)).getD 0, (number k (span t)).getD 0)
def good (k : Nat) (t : List UInt8) : Bool := if stepped t = true then (ends k t).1 && (number k (stepText t)).isSome else (ends k t).1
def item (k : Nat) (t : List UInt8) : Item := ⟨(ends k t).2.1, (ends k t).2.2, if stepped t = true then (number k (stepText t)).getD 0 else 1⟩
def within (k : Nat) (i : Item) : Bool := decide (lo k ≤ i.first) && decide (i.first ≤ i.last) && decide (i.last ≤ top k) && decide (1 ≤ i.step) && decide (i.step ≤ 59)
theorem within_iff {k : Nat} {i : Item} : within k i = true ↔ lo k ≤ i.first ∧ i.first ≤ i.last ∧ i.last ≤ top k ∧ 1 ≤ i.step ∧ i.step ≤ 59 := by
  simp [within, and_assoc]
/-- the bit of a number -/
def spot (k n : Nat) : Nat := if k = 4 then n % 7 else n
def bit (k n : Nat) : Nat := 2 ^ spot k n
/-- the bits of the first j numbers of a row -/
def bitsJ (k first step : Nat) : Nat → Nat
  | 0 => 0
  | j + 1 => bitsJ k first step j ||| bit k (first + j * step)
def bits (k : Nat) (i : Item) : Nat := bitsJ k i.first i.step ((i.last - i.first) / i.step + 1)

theorem bitsJ_test (k first step m : Nat) : ∀ J, (bitsJ k first step J).testBit m = true ↔ ∃ j, j < J ∧ spot k (first + j * step) = m
  | 0 => by simp [bitsJ]
  | J + 1 => by
    rw [bitsJ, Nat.testBit_or, Bool.or_eq_true, bitsJ_test k first step m J, bit, Nat.testBit_two_pow]
    constructor
    · rintro (⟨j, hj, h⟩ | h)
      · exact ⟨j, by omega, h⟩
      · exact ⟨J, by omega, by simpa using h⟩
    · rintro ⟨j, hj, h⟩
      by_cases e : j = J
      · exact .inr (by subst e; simpa using h)
      · exact .inl ⟨j, by omega, h⟩

theorem kinds {k : Nat} (hk : k ≤ 4) : k = 0 ∨ k = 1 ∨ k = 2 ∨ k = 3 ∨ k = 4 := by omega
theorem top_le {k : Nat} (hk : k ≤ 4) : top k ≤ 59 := by rcases kinds hk with rfl | rfl | rfl | rfl | rfl <;> decide
theorem hi_le {k : Nat} (hk : k ≤ 4) : lo k ≤ hi k ∧ hi k ≤ 59 ∧ hi k ≤ top k ∧ lo k ≤ 1 := by rcases kinds hk with rfl | rfl | rfl | rfl | rfl <;> decide
theorem spot_in {k n : Nat} (hk : k ≤ 4) (h0 : lo k ≤ n) (h1 : n ≤ top k) : lo k ≤ spot k n ∧ spot k n ≤ hi k := by
  unfold spot
  rcases kinds hk with rfl | rfl | rfl | rfl | rfl <;> simp [lo, hi, top] at * <;> omega
/-- how many numbers a row has: the last one is within -/
theorem row_in {first last step j : Nat} (h1 : first ≤ last) (hs : 1 ≤ step) (hj : j < (last - first) / step + 1) : first + j * step ≤ last := by
  have : j ≤ (last - first) / step := by omega
  have h2 : j * step ≤ last - first := (Nat.le_div_iff_mul_le (by omega)).1 this
  omega
theorem row_out {first last step : Nat} (h1 : first ≤ last) (hs : 1 ≤ step) : last < first + ((last - first) / step + 1) * step := by
  have := Nat.lt_div_mul_add (a := last - first) (b := step) (by omega)
  rw [Nat.add_mul]
  omega
theorem bits_test {k : Nat} {i : Item} {m : Nat} (hk : k ≤ 4) (hw : within k i = true) (hm : (bits k i).testBit m = true) : lo k ≤ m ∧ m ≤ hi k := by
  obtain ⟨h0, h1, h2, h3, h4⟩ := within_iff.1 hw
  obtain ⟨j, hj, rfl⟩ := (bitsJ_test ..).1 hm
  have := row_in h1 h3 hj
  exact spot_in hk (by omega) (by omega)
theorem bits_some (k : Nat) (i : Item) : bits k i ≠ 0 := by
  intro h
  have : (bits k i).testBit (spot k (i.first + 0 * i.step)) = true := (bitsJ_test ..).2 ⟨0, Nat.succ_pos _, rfl⟩
  rw [h] at this
  simp at this
theorem lt_of_bits {b n : Nat} (h : ∀ m, b.testBit m = true → m < n) : b < 2 ^ n := Nat.lt_pow_two_of_testBit b fun i hi => by
  cases hb : b.testBit i
  · rfl
  · exact absurd (h i hb) (by omega)

/-! a text's items -/
def items (s : List UInt8) : List (List UInt8) := Lib.split s [44]
theorem byte_here : ∀ (a r : List UInt8) (c : UInt8), c ∉ a → Lib.indexByte (a ++ c :: r) c = a.length
  | [], r, c, _ => by simp [Lib.indexByte]
  | b :: a, r, c, h => by
    have hb : (b == c) = false := beq_eq_false_iff_ne.2 fun e => h (by simp [e])
    have ih := byte_here a r c fun hm => h (by simp [hm])
    rw [List.cons_append, Lib.indexByte, hb, ih]
    have : ((a.length : Int) == -1) = false := beq_eq_false_iff_ne.2 (by omega)
    simp [this]
theorem byte_gone : ∀ (a : List UInt8) (c : UInt8), c ∉ a → Lib.indexByte a c = -1
  | [], c, _ => rfl
  | b :: a, c, h => by
    have hb : (b == c) = false := beq_eq_false_iff_ne.2 fun e => h (by simp [e])
    have ih := byte_gone a c fun hm => h (by simp [hm])
    simp [Lib.indexByte, hb, ih]
theorem cut_here (a r : List UInt8) (c : UInt8) (h : c ∉ a) : Lib.cut (a ++ c :: r) [c] = (a, r, true) := by
  unfold Lib.cut
  rw [Lib.index_one, byte_here a r c h]
  rw [if_pos (by omega)]
  simp
theorem cut_gone (a : List UInt8) (c : UInt8) (h : c ∉ a) : Lib.cut a [c] = (a, [], false) := by
  unfold Lib.cut
  rw [Lib.index_one, byte_gone a c h, if_neg (by omega)]
theorem items_one (a : List UInt8) (h : 44 ∉ a) : items a = [a] := by
  unfold items Lib.split
  rw [Lib.count_miss (by rw [Lib.index_one]; exact byte_gone a 44 h)]
  rfl
theorem items_next (a r : List UInt8) (h : 44 ∉ a) : items (a ++ 44 :: r) = a :: items r := by
  have hi : Lib.index (a ++ 44 :: r) [44] = a.length := by rw [Lib.index_one]; exact byte_here a r 44 h
  unfold items Lib.split
  rw [Lib.count_hit (by simp) hi, Nat.add_comm, Lib.splitK, hi]
  have : ((a.length : Int) == -1) = false := beq_eq_false_iff_ne.2 (by omega)
  simp [this]
theorem first_comma : ∀ (s : List UInt8), 44 ∉ s ∨ ∃ a r, s = a ++ 44 :: r ∧ (44 : UInt8) ∉ a
  | [] => .inl (by simp)
  | c :: s => by
    by_cases hc : c = 44
    · exact .inr ⟨[], s, by simp [hc], by simp⟩
    · rcases first_comma s with h | ⟨a, r, rfl, h⟩
      · exact .inl (by simp [h]; exact fun e => hc e.symm)
      · exact .inr ⟨c :: a, r, by simp, by simp [h]; exact fun e => hc e.symm⟩
theorem items_both : ∀ (n : Nat) (s t : List UInt8), s.length ≤ n → items (s ++ 44 :: t) = items s ++ items t
  | n, s, t, hn => by
    rcases first_comma s with h | ⟨a, r, rfl, h⟩
    · rw [items_next s t h, items_one s h]; rfl
    · match n with
      | 0 => simp at hn
      | n + 1 =>
        rw [List.append_assoc, List.cons_append, items_next a _ h, items_next a r h, items_both n r t (by simp at hn; omega)]
        rfl
theorem items_cons (s : List UInt8) : ∃ a r, items s = a :: r := by
  rcases first_comma s with h | ⟨a, r, rfl, h⟩
  · exact ⟨_, _, items_one s h⟩
  · exact ⟨_, _, items_next a r h⟩

/-! a text -/
def ierr (k : Nat) (t : List UInt8) : Nat := if good k t = false then 60 else if within k (item k t) = false then 61 else 0
def ibits (k : Nat) (t : List UInt8) : Nat := bits k (item k t)
def errs (k : Nat) : List (List UInt8) → Nat
  | [] => 0
  | t :: r => if ierr k t = 0 then errs k r else ierr k t
def ors (k : Nat) : List (List UInt8) → Nat
  | [] => 0
  | t :: r => ibits k t ||| ors k r
theorem errs_append (k : Nat) : ∀ xs ys, errs k (xs ++ ys) = if errs k xs = 0 then errs k ys else errs k xs
  | [], ys => by simp [errs]
  | t :: r, ys => by
    rw [List.cons_append, errs, errs, errs_append k r ys]
    by_cases h : ierr k t = 0
    · simp [h]
    · simp [h]
theorem ors_append (k : Nat) : ∀ xs ys, ors k (xs ++ ys) = ors k xs ||| ors k ys
  | [], ys => by simp [ors]
  | t :: r, ys => by rw [List.cons_append, ors, ors, ors_append k r ys, Nat.or_assoc]
theorem ierr_zero {k : Nat} {t : List UInt8} (h : ierr k t = 0) : good k t = true ∧ within k (item k t) = true := by
  unfold ierr at h
  by_cases hg : good k t = false
  · rw [if_pos hg] at h; omega
  · rw [if_neg hg] at h
    by_cases hw : within k (item k t) = false
    · rw [if_pos hw] at h; omega
    · exact ⟨by simpa using hg, by simpa using hw⟩
theorem ors_test {k : Nat} (hk : k ≤ 4) : ∀ {xs : List (List UInt8)} {m : Nat}, errs k xs = 0 → (ors k xs).testBit m = true → lo k ≤ m ∧ m ≤ hi k
  | [], m, _, h => by simp [ors] at h
  | t :: r, m, he, h => by
    rw [errs] at he
    by_cases h0 : ierr k t = 0
    · rw [if_pos h0] at he
      rw [ors, Nat.testBit_or, Bool.or_eq_true] at h
      rcases h with h | h
      · exact bits_test hk (ierr_zero h0).2 h
      · exact ors_test hk he h
    · rw [if_neg h0] at he; exact absurd he h0
theorem ors_some {k : Nat} {t : List UInt8} {r : List (List UInt8)} (he : errs k (t :: r) = 0) : ors k (t :: r) ≠ 0 := by
  rw [errs] at he
  by_cases h0 : ierr k t = 0
  · rw [ors]
    intro h
    have hb : ibits k t ≠ 0 := bits_some k _
    obtain ⟨m, hm⟩ := Nat.exists_testBit_of_ne_zero hb
    have : (ibits k t ||| ors k r).testBit m = true := by rw [Nat.testBit_or, hm]; rfl
    rw [h] at this
    simp at this
  · rw [if_neg h0] at he; exact absurd he h0
/-- which error a text is, what it allows, and whether it is free -/
def err (k : Nat) (s : List UInt8) : Nat := if 150 < s.length then 3 else errs k (items s)
def allows (k : Nat) (s : List UInt8) : Nat := if err k s = 0 then ors k (items s) else 0
def free (k : Nat) (s : List UInt8) : Bool := decide (err k s = 0) && Lib.hasPrefix s [42]
end Go.Proofs.YtpbnjibomdilhaaGreatDoor.Fld
