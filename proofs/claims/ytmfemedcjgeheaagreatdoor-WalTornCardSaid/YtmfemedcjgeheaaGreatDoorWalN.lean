/- Plain mathematics of layer 10: a segment's name and its number; the segments of a disk. No program is spoken of here. -/
import Derived.Test.YtmfemedcjgeheaaGreatDoorWalM
import Derived.Lib.ParseIntB
namespace Go.Proofs.YtmfemedcjgeheaaGreatDoor.Wl
open Dsk

/-- so many digits of a number -/
def digs : Nat → Nat → List UInt8
  | 0, _ => []
  | w + 1, n => digs w (n / 10) ++ [UInt8.ofNat (48 + n % 10)]
def isDig (c : UInt8) : Bool := decide (48 ≤ c.toNat) && decide (c.toNat ≤ 57)
def valGo : Nat → List UInt8 → Nat
  | a, [] => a
  | a, c :: r => valGo (a * 10 + (c.toNat - 48)) r
def valOf (l : List UInt8) : Nat := valGo 0 l
theorem valGo_append (l r : List UInt8) : ∀ a, valGo a (l ++ r) = valGo (valGo a l) r := by
  induction l with
  | nil => intro a; rfl
  | cons c l ih => intro a; exact ih _
theorem dig_toNat (d : Nat) (h : d < 10) : (UInt8.ofNat (48 + d)).toNat = 48 + d := by
  rw [UInt8.toNat_ofNat']
  exact Nat.mod_eq_of_lt (by omega)
theorem digs_len : ∀ (w n : Nat), (digs w n).length = w
  | 0, _ => rfl
  | w + 1, n => by simp [digs, digs_len w]
theorem digs_all : ∀ (w n : Nat), (digs w n).all isDig = true
  | 0, _ => rfl
  | w + 1, n => by
    have h : n % 10 < 10 := Nat.mod_lt _ (by decide)
    have h1 : isDig (UInt8.ofNat (48 + n % 10)) = true := by
      unfold isDig
      rw [dig_toNat _ h]
      simp
      omega
    rw [digs, List.all_append, digs_all w, List.all_cons, h1]
    rfl
theorem val_digs (w : Nat) : ∀ n : Nat, n < 10 ^ w → valOf (digs w n) = n := by
  induction w with
  | zero => intro n h; simp at h; subst h; rfl
  | succ w ih0 =>
    intro n h
    have ih := ih0 (n / 10) (by rw [Nat.pow_succ] at h; exact Nat.div_lt_of_lt_mul (by rw [Nat.mul_comm]; exact h))
    unfold valOf at ih ⊢
    rw [digs, valGo_append, ih]
    show n / 10 * 10 + ((UInt8.ofNat (48 + n % 10)).toNat - 48) = n
    rw [dig_toNat _ (Nat.mod_lt _ (by decide))]
    clear ih ih0 h
    omega
theorem dig_back {c : UInt8} (h : isDig c = true) : UInt8.ofNat (48 + (c.toNat - 48)) = c ∧ c.toNat - 48 < 10 := by
  unfold isDig at h
  simp only [Bool.and_eq_true, decide_eq_true_eq] at h
  refine ⟨?_, by omega⟩
  rw [show 48 + (c.toNat - 48) = c.toNat by omega]
  exact UInt8.ofNat_toNat
theorem valOf_snoc (l : List UInt8) (c : UInt8) : valOf (l ++ [c]) = valOf l * 10 + (c.toNat - 48) := by
  unfold valOf
  rw [valGo_append]
  rfl
theorem digs_val : ∀ (w : Nat) (l : List UInt8), l.length = w → l.all isDig = true → digs w (valOf l) = l ∧ valOf l < 10 ^ w
  | 0, l, h, _ => by rw [List.eq_nil_of_length_eq_zero h]; exact ⟨rfl, by decide⟩
  | w + 1, l, h, ha => by
    have hne : l ≠ [] := fun e => by rw [e] at h; cases h
    obtain ⟨r, c, rfl⟩ : ∃ r c, l = r ++ [c] := ⟨l.dropLast, l.getLast hne, (List.dropLast_concat_getLast hne).symm⟩
    rw [List.all_append, Bool.and_eq_true] at ha
    obtain ⟨h1, h2⟩ := digs_val w r (by simpa using h) ha.1
    obtain ⟨h3, h4⟩ := dig_back (c := c) (by simpa using ha.2)
    rw [valOf_snoc]
    refine ⟨?_, by rw [Nat.pow_succ]; omega⟩
    rw [digs, show (valOf r * 10 + (c.toNat - 48)) / 10 = valOf r by omega, show (valOf r * 10 + (c.toNat - 48)) % 10 = c.toNat - 48 by omega, h1, h3]

/-- ParseUint of a row of at most nine bytes -/
theorem parse_digits : ∀ (l : List UInt8) (a : Nat), l.all isDig = true → (a + 1) * 10 ^ l.length ≤ 1000000000 → Lib.parseUintM 4294967295 a l = .ok (valGo a l)
  | [], a, _, _ => rfl
  | c :: r, a, h, hb => by
    simp only [List.all_cons, Bool.and_eq_true] at h
    obtain ⟨_, h4⟩ := dig_back h.1
    have hd := h.1
    unfold isDig at hd
    simp only [Bool.and_eq_true, decide_eq_true_eq] at hd
    have hp : (a + 1) * 10 ^ (r.length + 1) ≤ 1000000000 := hb
    have hp1 : 0 < 10 ^ r.length := Nat.pow_pos (by decide)
    have hle : (a * 10 + (c.toNat - 48) + 1) * 10 ^ r.length ≤ 1000000000 := by
      refine Nat.le_trans (Nat.mul_le_mul_right _ (show a * 10 + (c.toNat - 48) + 1 ≤ (a + 1) * 10 by omega)) ?_
      rw [Nat.mul_assoc, ← Nat.pow_succ']
      exact hp
    have hsm : a * 10 + (c.toNat - 48) + 1 ≤ 1000000000 := Nat.le_trans (Nat.le_mul_of_pos_right _ hp1) hle
    rw [Lib.parseUintM, if_pos hd, if_neg (by omega), if_neg (by omega)]
    exact parse_digits r _ h.2 hle
theorem parse_other : ∀ (l : List UInt8) (a : Nat), l.all isDig = false → (a + 1) * 10 ^ l.length ≤ 1000000000 → (∀ n, Lib.parseUintM 4294967295 a l ≠ .ok n) ∧ Lib.parseUintM 4294967295 a l ≠ .range
  | [], a, h, _ => by cases h
  | c :: r, a, h, hb => by
    by_cases hd : 48 ≤ c.toNat ∧ c.toNat ≤ 57
    · have hc : isDig c = true := by simp [isDig, hd]
      have hr : r.all isDig = false := by simpa [hc] using h
      have hp : (a + 1) * 10 ^ (r.length + 1) ≤ 1000000000 := hb
      have hp1 : 0 < 10 ^ r.length := Nat.pow_pos (by decide)
      have hle : (a * 10 + (c.toNat - 48) + 1) * 10 ^ r.length ≤ 1000000000 := by
        refine Nat.le_trans (Nat.mul_le_mul_right _ (show a * 10 + (c.toNat - 48) + 1 ≤ (a + 1) * 10 by omega)) ?_
        rw [Nat.mul_assoc, ← Nat.pow_succ']
        exact hp
      have hsm : a * 10 + (c.toNat - 48) + 1 ≤ 1000000000 := Nat.le_trans (Nat.le_mul_of_pos_right _ hp1) hle
      rw [Lib.parseUintM, if_pos hd, if_neg (by omega), if_neg (by omega)]
      exact parse_other r _ hr hle
    · rw [Lib.parseUintM, if_neg hd]
      exact ⟨fun n e => (by cases e), fun e => (by cases e)⟩

def dot : Name := [108, 111, 103, 46]
/-- a segment's name -/
def nameOf (k : Nat) : Name := dot ++ digs 8 k
/-- the number in a segment's name -/
def numOf (n : Name) : Option Nat := if n.take 4 = dot ∧ n.length = 12 ∧ (n.drop 4).all isDig = true ∧ valOf (n.drop 4) ≠ 0 then some (valOf (n.drop 4)) else none
theorem name_len (k : Nat) : (nameOf k).length = 12 := by simp [nameOf, dot, digs_len]
theorem num_name {k : Nat} (h1 : 1 ≤ k) (h2 : k ≤ 99999999) : numOf (nameOf k) = some k := by
  have e1 : (nameOf k).take 4 = dot := rfl
  have e2 : (nameOf k).drop 4 = digs 8 k := rfl
  have e3 := val_digs 8 k (by omega)
  unfold numOf
  rw [e1, e2, e3, if_pos ⟨rfl, name_len k, digs_all 8 k, by omega⟩]
theorem name_num {n : Name} {k : Nat} (h : numOf n = some k) : n = nameOf k ∧ 1 ≤ k ∧ k ≤ 99999999 := by
  unfold numOf at h
  split at h
  · rename_i hc
    obtain ⟨h1, h2, h3, h4⟩ := hc
    cases h
    obtain ⟨e1, e2⟩ := digs_val 8 (n.drop 4) (by rw [List.length_drop]; omega) h3
    refine ⟨?_, by omega, by omega⟩
    rw [nameOf, e1, ← h1, List.take_append_drop]
  · cases h
theorem name_inj {j k : Nat} (hj : 1 ≤ j ∧ j ≤ 99999999) (hk : 1 ≤ k ∧ k ≤ 99999999) (h : nameOf j = nameOf k) : j = k := by
  have h1 := num_name hj.1 hj.2
  rw [h, num_name hk.1 hk.2] at h1
  exact (Option.some.inj h1).symm

theorem digs_lt : ∀ (w j k : Nat), j < k → k < 10 ^ w → digs w j < digs w k
  | 0, j, k, h, hk => by simp at hk; omega
  | w + 1, j, k, h, hk => by
    have hk' : k / 10 < 10 ^ w := by rw [Nat.pow_succ] at hk; exact Nat.div_lt_of_lt_mul (by rw [Nat.mul_comm]; exact hk)
    rw [digs, digs]
    by_cases e : j / 10 = k / 10
    · rw [e]
      have hlt : UInt8.ofNat (48 + j % 10) < UInt8.ofNat (48 + k % 10) := by
        rw [UInt8.lt_iff_toNat_lt, dig_toNat _ (Nat.mod_lt _ (by decide)), dig_toNat _ (Nat.mod_lt _ (by decide))]
        omega
      exact List.append_left_lt (List.cons_lt_cons_iff.2 (.inl hlt))
    · have ih := digs_lt w (j / 10) (k / 10) (by omega) hk'
      exact lt_append (by rw [digs_len, digs_len]) ih
where
  lt_append {a b x y : List UInt8} (hl : a.length = b.length) (h : a < b) : a ++ x < b ++ y := by
    induction a generalizing b with
    | nil =>
      cases b with
      | nil => exact absurd h (List.lt_irrefl _)
      | cons c b => cases hl
    | cons c a ih =>
      cases b with
      | nil => cases hl
      | cons d b =>
        rw [List.cons_append, List.cons_append, List.cons_lt_cons_iff]
        rcases List.cons_lt_cons_iff.1 h with h1 | ⟨h1, h2⟩
        · exact .inl h1
        · exact .inr ⟨h1, ih (by simpa using hl) h2⟩
theorem name_lt {j k : Nat} (h : j < k) (hk : k ≤ 99999999) : nameOf j < nameOf k := List.append_left_lt (digs_lt 8 j k h (by omega))

/-- the segments of a disk: their numbers and their bytes -/
def SegList (M : Files) (l : List (Nat × List Int)) : Prop := l.Pairwise (fun a b => a.1 < b.1) ∧ ∀ k bs, (k, bs) ∈ l ↔ (1 ≤ k ∧ k ≤ 99999999) ∧ (M.at (nameOf k)).now.there = true ∧ bs = (M.at (nameOf k)).now.bs

theorem SegList.one {M : Files} {a b : List (Nat × List Int)} (ha : SegList M a) (hb : SegList M b) : a = b := by
  refine List.Perm.eq_of_pairwise (le := fun x y : Nat × List Int => x.1 < y.1) (fun x y _ _ h1 h2 => by omega) ha.1 hb.1 ?_
  have nd : ∀ {l : List (Nat × List Int)}, l.Pairwise (fun a b => a.1 < b.1) → l.Nodup := fun h => h.imp fun {x y} hxy e => by subst e; omega
  exact (List.perm_ext_iff_of_nodup (nd ha.1) (nd hb.1)).2 fun x => by
    obtain ⟨k, bs⟩ := x
    exact (ha.2 k bs).trans (hb.2 k bs).symm

def numsOf (ks : List Name) : List Nat := ks.filterMap numOf
theorem nums_rise : ∀ {ks : List Name}, ks.Pairwise (· < ·) → (numsOf ks).Pairwise (· < ·)
  | [], _ => .nil
  | n :: ks, h => by
    have ih := nums_rise (List.Pairwise.tail h)
    unfold numsOf
    cases hn : numOf n with
    | none => rw [List.filterMap_cons_none hn]; exact ih
    | some k =>
      rw [List.filterMap_cons_some hn]
      refine List.Pairwise.cons (fun j hj => ?_) ih
      obtain ⟨m, hm, hmj⟩ := List.mem_filterMap.1 hj
      have h1 := (List.pairwise_cons.1 h).1 m hm
      obtain ⟨rfl, hk1, hk2⟩ := name_num hn
      obtain ⟨rfl, hj1, hj2⟩ := name_num hmj
      rcases Nat.lt_trichotomy k j with h2 | h2 | h2
      · exact h2
      · subst h2; exact absurd h1 (List.lt_irrefl _)
      · exact absurd (List.lt_trans h1 (name_lt h2 hk2)) (List.lt_irrefl _)
theorem nums_mem {ks : List Name} {k : Nat} : k ∈ numsOf ks ↔ nameOf k ∈ ks ∧ 1 ≤ k ∧ k ≤ 99999999 := by
  unfold numsOf
  rw [List.mem_filterMap]
  constructor
  · rintro ⟨n, hn, h⟩
    obtain ⟨rfl, h1, h2⟩ := name_num h
    exact ⟨hn, h1, h2⟩
  · rintro ⟨hn, h1, h2⟩
    exact ⟨_, hn, num_name h1 h2⟩

def segsOf (M : Files) (ns : List Nat) : List (Nat × List Int) := ns.map fun k => (k, (M.at (nameOf k)).now.bs)
theorem segs_of {M : Files} {ks : List Name} (h : NamesOf M (fun f => f.now.there) ks) : SegList M (segsOf M (numsOf ks)) := by
  refine ⟨?_, fun k bs => ?_⟩
  · unfold segsOf
    rw [List.pairwise_map]
    exact (nums_rise h.1).imp fun h => h
  · unfold segsOf
    rw [List.mem_map]
    have hat : ∀ n, n ∈ ks ↔ (M.at n).now.there = true := fun n => by
      rw [h.2 n]
      unfold Files.at
      cases hM : M n with
      | none => simp [Fil.zero, Fil.now, Ver.zero]
      | some f => simp
    constructor
    · rintro ⟨j, hj, e⟩
      simp only [Prod.mk.injEq] at e
      obtain ⟨rfl, rfl⟩ := e
      obtain ⟨h1, h2⟩ := nums_mem.1 hj
      exact ⟨h2, (hat _).1 h1, rfl⟩
    · rintro ⟨h1, h2, rfl⟩
      exact ⟨k, nums_mem.2 ⟨(hat _).2 h2, h1⟩, rfl⟩

end Go.Proofs.YtmfemedcjgeheaaGreatDoor.Wl
