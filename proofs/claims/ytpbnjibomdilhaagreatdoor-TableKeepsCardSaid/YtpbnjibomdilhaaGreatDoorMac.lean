/- The way back, as mathematics: what a field's text is read as; what two texts with a comma between are. An expression's text: its parts, the names; what Parse tells of any text. -/
import Derived.Test.YtpbnjibomdilhaaGreatDoorMab
import Derived.Test.YtpbnjibomdilhaaGreatDoorFld
namespace Go.Proofs.YtpbnjibomdilhaaGreatDoor.Fld
open Go

theorem dig_pure {n : Nat} (h : n < 64) (c : UInt8) (hc : c.toNat < 48) : c ∉ dig n := fun hm => by
  have := (dig_some ⟨n, h⟩).2.2 c hm
  omega
theorem plain_dig : ∀ n : Fin 64, plainNum (dig n.val) = some n.val := by decide +kernel
theorem number_dig {k n : Nat} (h : n < 64) : number k (dig n) = some n := by
  have hl := dig_len h
  unfold number
  rw [nameAt_not (by omega)]
  exact plain_dig ⟨n, h⟩
theorem ends_one {k x : Nat} (h : x < 64) : stepped (dig x) = false ∧ ends k (dig x) = (true, x, x) := by
  have h1 : Lib.cut (dig x) [47] = (dig x, [], false) := cut_gone _ _ (dig_pure h 47 (by decide))
  have h2 : Lib.cut (dig x) [45] = (dig x, [], false) := cut_gone _ _ (dig_pure h 45 (by decide))
  have hs : stepped (dig x) = false := by unfold stepped; rw [h1]
  have hp : span (dig x) = dig x := by unfold span; rw [h1]
  have hr : ranged (dig x) = false := by unfold ranged; rw [hp, h2]
  refine ⟨hs, ?_⟩
  have hne : ¬ dig x = [42] := fun e => dig_pure h 42 (by decide) (by rw [e]; simp)
  unfold ends
  rw [hp, if_neg hne, hr, hs, number_dig h]
  rfl
theorem ends_two {k x y : Nat} (h : x < 64) (hy : y < 64) : stepped (dig x ++ 45 :: dig y) = false ∧ ends k (dig x ++ 45 :: dig y) = (true, x, y) := by
  have h1 : Lib.cut (dig x ++ 45 :: dig y) [47] = (dig x ++ 45 :: dig y, [], false) := cut_gone _ _ (by
    simp only [List.mem_append, List.mem_cons, not_or]
    exact ⟨dig_pure h 47 (by decide), by decide, dig_pure hy 47 (by decide)⟩)
  have h2 : Lib.cut (dig x ++ 45 :: dig y) [45] = (dig x, dig y, true) := cut_here _ _ _ (dig_pure h 45 (by decide))
  have hs : stepped (dig x ++ 45 :: dig y) = false := by unfold stepped; rw [h1]
  have hp : span (dig x ++ 45 :: dig y) = dig x ++ 45 :: dig y := by unfold span; rw [h1]
  have hr : ranged (dig x ++ 45 :: dig y) = true := by unfold ranged; rw [hp, h2]
  have hl : left (dig x ++ 45 :: dig y) = dig x := by unfold left; rw [hp, h2]
  have hq : right (dig x ++ 45 :: dig y) = dig y := by unfold right; rw [hp, h2]
  refine ⟨hs, ?_⟩
  have hne : ¬ dig x ++ 45 :: dig y = [42] := fun e => by
    have : (45 : UInt8) ∈ dig x ++ 45 :: dig y := by simp
    rw [e] at this
    simp at this
  unfold ends
  rw [hp, if_neg hne, hr, hl, hq, number_dig h, number_dig hy]
  rfl
theorem ends_ok {k x y : Nat} {t : List UInt8} (h : stepped t = false ∧ ends k t = (true, x, y)) (h0 : lo k ≤ x) (h1 : x ≤ y) (h2 : y ≤ top k) : ierr k t = 0 ∧ ibits k t = bits k ⟨x, y, 1⟩ := by
  have hg : good k t = true := by unfold good; rw [h.1, h.2]; rfl
  have hi : item k t = ⟨x, y, 1⟩ := by unfold item; rw [h.1, h.2]; rfl
  have hw : within k (item k t) = true := by rw [hi, within_iff]; exact ⟨h0, h1, h2, Nat.le_refl 1, (by decide : 1 ≤ 59)⟩
  refine ⟨?_, by unfold ibits; rw [hi]⟩
  unfold ierr
  rw [hg, hw]
  rfl
theorem bits_row {k x y m : Nat} (hk : k ≤ 4) (h0 : lo k ≤ x) (h1 : x ≤ y) (h2 : y ≤ hi k) : (bits k ⟨x, y, 1⟩).testBit m = (decide (x ≤ m) && decide (m ≤ y)) := by
  have hsp : ∀ n, n ≤ y → spot k n = n := fun n hn => by
    unfold spot
    split
    · rename_i e
      subst e
      have : hi 4 = 6 := rfl
      omega
    · rfl
  rw [Bool.eq_iff_iff]
  unfold bits
  rw [bitsJ_test]
  simp only [Nat.div_one, Nat.mul_one, Bool.and_eq_true, decide_eq_true_eq]
  constructor
  · rintro ⟨j, hj, e⟩
    rw [hsp _ (by omega)] at e
    omega
  · rintro ⟨ha, hb⟩
    exact ⟨m - x, by omega, by rw [hsp _ (by omega)]; omega⟩
theorem run_ok {k x y : Nat} (hk : k ≤ 4) (h0 : lo k ≤ x) (h1 : x ≤ y) (h2 : y ≤ hi k) : errs k (items (run x y)) = 0 ∧ ∀ m, (ors k (items (run x y))).testBit m = (decide (x ≤ m) && decide (m ≤ y)) := by
  have hh := hi_le hk
  have hx : x < 64 := by omega
  have hy : y < 64 := by omega
  have px := dig_pure hx 44 (by decide)
  have py := dig_pure hy 44 (by decide)
  unfold run
  by_cases e0 : y = x
  · subst e0
    rw [if_pos rfl, items_one _ px]
    obtain ⟨a1, a2⟩ := ends_ok (ends_one (k := k) hx) h0 h1 (by omega)
    refine ⟨by rw [errs, if_pos a1, errs], fun m => ?_⟩
    rw [ors, ors, Nat.or_zero, a2, bits_row hk h0 h1 h2]
  · rw [if_neg e0]
    by_cases e1 : y = x + 1
    · rw [if_pos e1, List.append_assoc, List.singleton_append, items_next _ _ px, items_one _ py]
      obtain ⟨a1, a2⟩ := ends_ok (ends_one (k := k) hx) h0 (Nat.le_refl x) (by omega)
      obtain ⟨b1, b2⟩ := ends_ok (ends_one (k := k) hy) (by omega) (Nat.le_refl y) (by omega)
      refine ⟨by rw [errs, if_pos a1, errs, if_pos b1, errs], fun m => ?_⟩
      rw [ors, ors, ors, Nat.or_zero, a2, b2, Nat.testBit_or, bits_row hk h0 (Nat.le_refl x) (by omega), bits_row hk (by omega) (Nat.le_refl y) h2]
      rw [Bool.eq_iff_iff]
      simp only [Bool.or_eq_true, Bool.and_eq_true, decide_eq_true_eq]
      omega
    · have hp : (44 : UInt8) ∉ dig x ++ 45 :: dig y := by
        simp only [List.mem_append, List.mem_cons, not_or]
        exact ⟨px, by decide, py⟩
      rw [if_neg e1, List.append_assoc, List.singleton_append, items_one _ hp]
      obtain ⟨a1, a2⟩ := ends_ok (ends_two (k := k) hx hy) h0 h1 (by omega)
      refine ⟨by rw [errs, if_pos a1, errs], fun m => ?_⟩
      rw [ors, ors, Nat.or_zero, a2, bits_row hk h0 h1 h2]

/-- the runs' texts, with commas between -/
def told (rs : List (Nat × Nat)) : List UInt8 := Lib.join (rs.map fun r => run r.1 r.2) [44]
theorem told_more (r q : Nat × Nat) (rs : List (Nat × Nat)) : told (r :: q :: rs) = run r.1 r.2 ++ 44 :: told (q :: rs) := by
  unfold told
  rw [List.map_cons, Lib.join_cons, List.map_cons, Lib.join_cons]
  simp [Lib.joinTail]
theorem told_ok {k : Nat} (hk : k ≤ 4) : ∀ (rs : List (Nat × Nat)), rs ≠ [] → (∀ r ∈ rs, lo k ≤ r.1 ∧ r.1 ≤ r.2 ∧ r.2 ≤ hi k) → errs k (items (told rs)) = 0 ∧ ∀ m, (ors k (items (told rs))).testBit m = true ↔ ∃ r ∈ rs, r.1 ≤ m ∧ m ≤ r.2
  | [], h, _ => absurd rfl h
  | [r], _, h => by
    obtain ⟨h0, h1, h2⟩ := h r (by simp)
    obtain ⟨a1, a2⟩ := run_ok hk h0 h1 h2
    have e : told [r] = run r.1 r.2 := by unfold told; rw [List.map_cons, List.map_nil, Lib.join_one]
    rw [e]
    refine ⟨a1, fun m => ?_⟩
    rw [a2]
    simp
  | r :: q :: rs, _, h => by
    obtain ⟨h0, h1, h2⟩ := h r (by simp)
    obtain ⟨a1, a2⟩ := run_ok hk h0 h1 h2
    obtain ⟨b1, b2⟩ := told_ok hk (q :: rs) (by simp) fun p hp => h p (by simp only [List.mem_cons] at hp ⊢; exact .inr hp)
    rw [told_more, items_both _ _ _ (Nat.le_refl _), errs_append, ors_append, if_pos a1]
    refine ⟨b1, fun m => ?_⟩
    rw [Nat.testBit_or, Bool.or_eq_true, b2, a2]
    simp
theorem runs_end {b x : Nat} (hb : b < 2 ^ 64) : ∀ (d y : Nat), x ≤ y → 64 ≤ y + d → (∀ m, x ≤ m → m ≤ y → b.testBit m = true) → ∃ y, x ≤ y ∧ (∀ m, x ≤ m → m ≤ y → b.testBit m = true) ∧ b.testBit (y + 1) = false
  | 0, y, h0, h1, h => by
    have := h y h0 (Nat.le_refl _)
    rw [Nat.testBit_lt_two_pow (Nat.lt_of_lt_of_le hb (Nat.pow_le_pow_right (n := 2) (by decide) (by omega)))] at this
    simp at this
  | d + 1, y, h0, h1, h => by
    cases e : b.testBit (y + 1)
    · exact ⟨y, h0, h, e⟩
    · refine runs_end hb d (y + 1) (by omega) (by omega) fun m hm1 hm2 => ?_
      by_cases e2 : m ≤ y
      · exact h m hm1 e2
      · rw [show m = y + 1 by omega]; exact e
theorem runs_are {b : Nat} (hb : b < 2 ^ 64) : ∀ (d n : Nat), 64 ≤ n + d → ∃ rs, Runs b n rs
  | 0, n, h => ⟨[], .stop (first_none.2 fun j hn hj => absurd hj (by omega))⟩
  | d + 1, n, h => by
    cases e : first b (n : Int) with
    | none => exact ⟨[], .stop e⟩
    | some x =>
      obtain ⟨h1, h2, h3, h4⟩ := first_spec e
      obtain ⟨y, hy1, hy2, hy3⟩ := runs_end hb 64 x (Nat.le_refl x) (by omega) fun m hm1 hm2 => by rw [show m = x by omega]; exact h3
      obtain ⟨rs, hr⟩ := runs_are hb d (y + 1) (by omega)
      exact ⟨(x, y) :: rs, .next e hy1 hy2 hy3 hr⟩
theorem head_told {r : Nat × Nat} {rs : List (Nat × Nat)} (h : r.1 < 64) : ∃ c l, told (r :: rs) = c :: l ∧ c ≠ 42 := by
  obtain ⟨c, l, e⟩ := List.exists_cons_of_ne_nil (dig_ne h)
  have hc : c ≠ 42 := fun hc => dig_pure h 42 (by decide) (by rw [e, hc]; simp)
  have : ∃ l', run r.1 r.2 = c :: l' := by
    unfold run
    rw [e]
    split
    · exact ⟨_, rfl⟩
    · split
      · exact ⟨_, rfl⟩
      · exact ⟨_, rfl⟩
  obtain ⟨l', e'⟩ := this
  unfold told
  rw [List.map_cons, Lib.join_cons, e']
  exact ⟨c, _, rfl, hc⟩
theorem body_back {k b : Nat} (hk : k ≤ 4) (hb : b < 2 ^ 64) (hm : may (k : Int) b = true) : errs k (items (body b)) = 0 ∧ ors k (items (body b)) = b ∧ (body b).length ≤ 132 ∧ ∃ c l, body b = c :: l ∧ c ≠ 42 := by
  obtain ⟨hne, hin⟩ := (may_iff hk hb).1 hm
  obtain ⟨rs, hr⟩ := runs_are hb 64 0 (by omega)
  obtain ⟨e, hall⟩ := body_runs hb hr
  have hcov := runs_cover hr
  have e' : body b = told rs := e
  cases rs with
  | nil => exact absurd hr (runs_some hne hb)
  | cons r rs =>
    have hok : ∀ q ∈ r :: rs, lo k ≤ q.1 ∧ q.1 ≤ q.2 ∧ q.2 ≤ hi k := fun q hq => by
      obtain ⟨h1, h2, h3⟩ := hall q hq
      exact ⟨(hin q.1 (h3 q.1 (Nat.le_refl _) h1)).1, h1, (hin q.2 (h3 q.2 h1 (Nat.le_refl _))).2⟩
    obtain ⟨a1, a2⟩ := told_ok hk (r :: rs) (by simp) hok
    rw [e']
    refine ⟨a1, Nat.eq_of_testBit_eq fun m => ?_, runs_len hr fun q hq => ⟨(hall q hq).1, (hall q hq).2.1⟩, head_told (by have := hall r (by simp); omega)⟩
    rw [Bool.eq_iff_iff, a2]
    constructor
    · rintro ⟨q, hq, h1, h2⟩
      exact (hall q hq).2.2 m h1 h2
    · intro h
      exact hcov m (by omega) (by have := hin m h; have := hi_le hk; omega) h
theorem star_back : ∀ k : Fin 5, errs k.val (items [42]) = 0 ∧ ors k.val (items [42]) = all k.val := by decide +kernel
theorem pre_head {c : UInt8} {l : List UInt8} : Lib.hasPrefix (c :: l) [42] = decide (c = 42) := by
  unfold Lib.hasPrefix
  by_cases h : c = 42
  · rw [decide_eq_true h, h]; rfl
  · rw [decide_eq_false h]
    have : ((42 : UInt8) == c) = false := beq_eq_false_iff_ne.2 fun e => h e.symm
    rw [List.isPrefixOf, this]; rfl
/-- a field that may be, told as a text, is read as what allows the same, and is free just if it is told as all -/
theorem back {k b : Nat} (star : Bool) (hk : k ≤ 4) (hb : b < 2 ^ 64) (hm : may (k : Int) b = true) : (text (k : Int) b star).length ≤ 150 ∧ err k (text (k : Int) b star) = 0 ∧ allows k (text (k : Int) b star) = b ∧ free k (text (k : Int) b star) = decide (text (k : Int) b star = [42]) := by
  by_cases h : star = true ∧ b = all k
  · have e : text (k : Int) b star = [42] := by unfold text; rw [if_pos hm, if_pos (by rw [Int.toNat_natCast]; exact h)]
    obtain ⟨a1, a2⟩ := star_back ⟨k, by omega⟩
    have e0 : err k [42] = 0 := by unfold err; rw [if_neg (by simp)]; exact a1
    rw [e]
    refine ⟨by simp, e0, ?_, ?_⟩
    · unfold allows
      rw [if_pos e0, h.2]
      exact a2
    · unfold free
      rw [e0]
      rfl
  · have e : text (k : Int) b star = body b := by unfold text; rw [if_pos hm, if_neg (by rw [Int.toNat_natCast]; exact h)]
    obtain ⟨a1, a2, a3, c, l, a4, a5⟩ := body_back hk hb hm
    have e0 : err k (body b) = 0 := by unfold err; rw [if_neg (by omega)]; exact a1
    rw [e]
    refine ⟨by omega, e0, ?_, ?_⟩
    · unfold allows
      rw [if_pos e0]
      exact a2
    · unfold free
      rw [e0, a4, pre_head, decide_eq_false a5]
      have : ¬ (c :: l = [42]) := fun h => a5 (by simpa using congrArg List.head? h)
      rw [decide_eq_false this]
      rfl

/-! two texts -/
theorem err_short {k : Nat} {s : List UInt8} (h : s.length ≤ 150) : err k s = errs k (items s) := by unfold err; rw [if_neg (by omega)]
theorem err_both {k : Nat} {s t : List UInt8} (hs : s.length ≤ 45) (ht : t.length ≤ 45) : err k (s ++ 44 :: t) = if err k s = 0 then err k t else err k s := by
  rw [err_short (by simp; omega), err_short (by omega), err_short (by omega), items_both _ _ _ (Nat.le_refl _), errs_append]
theorem allows_both {k : Nat} {s t : List UInt8} (hs : s.length ≤ 45) (ht : t.length ≤ 45) (h1 : err k s = 0) (h2 : err k t = 0) : allows k (s ++ 44 :: t) = allows k s ||| allows k t := by
  have e : err k (s ++ 44 :: t) = 0 := by rw [err_both hs ht, if_pos h1, h2]
  unfold allows
  rw [if_pos e, if_pos h1, if_pos h2, items_both _ _ _ (Nat.le_refl _), ors_append]
theorem free_both {k : Nat} {s t : List UInt8} (hs : s.length ≤ 45) (ht : t.length ≤ 45) (h1 : err k s = 0) (h2 : err k t = 0) : free k (s ++ 44 :: t) = free k s := by
  have e : err k (s ++ 44 :: t) = 0 := by rw [err_both hs ht, if_pos h1, h2]
  unfold free
  rw [e, h1]
  cases s with
  | nil => rfl
  | cons c l => rw [List.cons_append, pre_head, pre_head]
theorem allows_lt {k : Nat} (hk : k ≤ 4) (s : List UInt8) : allows k s < 2 ^ 64 := by
  unfold allows
  by_cases h : err k s = 0
  · rw [if_pos h]
    have he : errs k (items s) = 0 := by
      unfold err at h
      split at h
      · omega
      · exact h
    exact lt_of_bits fun m hm => by have := ors_test hk he hm; have := hi_le hk; omega
  · rw [if_neg h]; decide
theorem may_allows {k : Nat} (hk : k ≤ 4) {s : List UInt8} (h : err k s = 0) : may (k : Int) (allows k s) = true := by
  have hlt := allows_lt hk s
  rw [may_iff hk hlt]
  have he : errs k (items s) = 0 := by
    unfold err at h
    split at h
    · omega
    · exact h
  have e : allows k s = ors k (items s) := if_pos h
  rw [e]
  obtain ⟨a, r, hi⟩ := items_cons s
  exact ⟨by rw [hi] at he ⊢; exact ors_some he, fun m hm => ors_test hk he hm⟩
end Go.Proofs.YtpbnjibomdilhaaGreatDoor.Fld

namespace Go.Proofs.YtpbnjibomdilhaaGreatDoor.Cron
open Go

/-! a text's parts: between blanks -/
def parts (s : List UInt8) : List (List UInt8) := Lib.split s [32]
theorem parts_one (a : List UInt8) (h : 32 ∉ a) : parts a = [a] := by
  unfold parts Lib.split
  rw [Lib.count_miss (by rw [Lib.index_one]; exact Fld.byte_gone a 32 h)]
  rfl
theorem parts_next (a r : List UInt8) (h : 32 ∉ a) : parts (a ++ 32 :: r) = a :: parts r := by
  have hi : Lib.index (a ++ 32 :: r) [32] = a.length := by rw [Lib.index_one]; exact Fld.byte_here a r 32 h
  unfold parts Lib.split
  rw [Lib.count_hit (by simp) hi, Nat.add_comm, Lib.splitK, hi]
  have : ((a.length : Int) == -1) = false := beq_eq_false_iff_ne.2 (by omega)
  simp [this]
/-- the first error of the first k fields -/
def errF (ps : List (List UInt8)) : Nat → Nat
  | 0 => 0
  | k + 1 => if errF ps k = 0 then Fld.err k (ps.getD k []) else errF ps k
/-- five parts, none empty -/
def whole (l : List UInt8) : Bool := decide ((parts l).length = 5) && !((parts l).contains [])
def spErr (l : List UInt8) : Nat := if whole l = true then errF (parts l) 5 else 70
def spB (l : List UInt8) (k : Nat) : Nat := if spErr l = 0 then Fld.allows k ((parts l).getD k []) else 0
def spS (l : List UInt8) (k : Nat) : Bool := if spErr l = 0 then Fld.free k ((parts l).getD k []) else false
/-- the names, each with its text behind -/
def tab : List (List UInt8) :=
  [[64, 104, 111, 117, 114, 108, 121], [48, 32, 42, 32, 42, 32, 42, 32, 42],
   [64, 100, 97, 105, 108, 121], [48, 32, 48, 32, 42, 32, 42, 32, 42],
   [64, 109, 105, 100, 110, 105, 103, 104, 116], [48, 32, 48, 32, 42, 32, 42, 32, 42],
   [64, 119, 101, 101, 107, 108, 121], [48, 32, 48, 32, 42, 32, 42, 32, 48],
   [64, 109, 111, 110, 116, 104, 108, 121], [48, 32, 48, 32, 49, 32, 42, 32, 42],
   [64, 121, 101, 97, 114, 108, 121], [48, 32, 48, 32, 49, 32, 49, 32, 42],
   [64, 97, 110, 110, 117, 97, 108, 108, 121], [48, 32, 48, 32, 49, 32, 49, 32, 42]]
/-- which name a text is, from the i-th on -/
def seek (l : List UInt8) : Nat → Nat → Option (List UInt8)
  | 0, _ => none
  | n + 1, i => if tab.getD (2 * i) [] = l then some (tab.getD (2 * i + 1) []) else seek l n (i + 1)
def nameOf (l : List UInt8) : Option (List UInt8) := seek l 7 0
def nmB (l : List UInt8) (k : Nat) : Nat := match nameOf l with | some t => spB t k | none => 0
def nmS (l : List UInt8) (k : Nat) : Bool := match nameOf l with | some t => spS t k | none => false
/-- what Parse tells -/
def pErr (l : List UInt8) : Nat := if 400 < l.length then 3 else if Lib.hasPrefix l [64] = true then (if nameOf l = none then 70 else 0) else spErr l
def pB (l : List UInt8) (k : Nat) : Nat := if 400 < l.length then 0 else if Lib.hasPrefix l [64] = true then nmB l k else spB l k
def pS (l : List UInt8) (k : Nat) : Bool := if 400 < l.length then false else if Lib.hasPrefix l [64] = true then nmS l k else spS l k

/-! the seven names' texts are whole -/
theorem tab_ok : ∀ i : Fin 7, spErr (tab.getD (2 * i.val + 1) []) = 0 ∧ spB (tab.getD (2 * i.val + 1) []) 0 ≠ 0 := by decide +kernel
theorem seek_ok {l t : List UInt8} : ∀ n i, n + i = 7 → seek l n i = some t → spErr t = 0 ∧ spB t 0 ≠ 0
  | 0, _, _, h => by cases h
  | n + 1, i, hi, h => by
    unfold seek at h
    split at h
    · cases h
      exact tab_ok ⟨i, by omega⟩
    · exact seek_ok n (i + 1) (by omega) h
theorem name_ok {l t : List UInt8} (h : nameOf l = some t) : spErr t = 0 ∧ spB t 0 ≠ 0 := seek_ok 7 0 rfl h
theorem errF_ok {ps : List (List UInt8)} : ∀ k, errF ps k = 0 → ∀ j, j < k → Fld.err j (ps.getD j []) = 0
  | 0, _, j, hj => absurd hj (by omega)
  | k + 1, h, j, hj => by
    unfold errF at h
    split at h
    · rename_i h0
      rcases Nat.lt_or_ge j k with h1 | h1
      · exact errF_ok k h0 j h1
      · rw [show j = k by omega]; exact h
    · exact absurd h (by assumption)
theorem errF_zero {ps : List (List UInt8)} : ∀ k, (∀ j, j < k → Fld.err j (ps.getD j []) = 0) → errF ps k = 0
  | 0, _ => rfl
  | k + 1, h => by
    unfold errF
    rw [if_pos (errF_zero k fun j hj => h j (by omega))]
    exact h k (by omega)
theorem errF_bad {ps : List (List UInt8)} {i n : Nat} (h0 : errF ps i = 0) (hn : Fld.err i (ps.getD i []) = n) (hz : n ≠ 0) : ∀ j, errF ps (i + 1 + j) = n
  | 0 => by
    show errF ps (i + 1) = n
    unfold errF
    rw [if_pos h0, hn]
  | j + 1 => by
    have ih := errF_bad h0 hn hz j
    show (if errF ps (i + 1 + j) = 0 then _ else errF ps (i + 1 + j)) = n
    rw [ih, if_neg hz]
theorem spB_lt (l : List UInt8) (k : Nat) (hk : k < 5) : spB l k < 2 ^ 64 := by
  unfold spB
  split
  · exact Fld.allows_lt (by omega) _
  · decide
theorem nmB_lt (l : List UInt8) (k : Nat) (hk : k < 5) : nmB l k < 2 ^ 64 := by
  unfold nmB
  split
  · exact spB_lt _ k hk
  · decide
theorem pB_lt (l : List UInt8) (k : Nat) (hk : k < 5) : pB l k < 2 ^ 64 := by
  unfold pB
  split
  · decide
  · split
    · exact nmB_lt l k hk
    · exact spB_lt l k hk
theorem sp_may {l : List UInt8} (h : spErr l = 0) : may (spB l) = true := by
  rw [may_iff]
  intro k hk
  unfold spB
  rw [if_pos h]
  unfold spErr at h
  split at h
  · exact Fld.may_allows (by omega) (errF_ok 5 h k hk)
  · cases h
/-- a text's expression may be -/
theorem p_may {l : List UInt8} (h : pErr l = 0) : may (pB l) = true := by
  unfold pErr at h
  split at h
  · cases h
  · rename_i h1
    split at h
    · rename_i h2
      split at h
      · cases h
      · rename_i h3
        cases e : nameOf l with
        | none => exact absurd e h3
        | some t =>
          have := sp_may (name_ok e).1
          rw [may_iff] at this ⊢
          intro k hk
          have := this k hk
          unfold pB nmB
          rw [if_neg h1, if_pos h2, e]
          exact this
    · rename_i h2
      have := sp_may h
      rw [may_iff] at this ⊢
      intro k hk
      have := this k hk
      unfold pB
      rw [if_neg h1, if_neg h2]
      exact this
end Go.Proofs.YtpbnjibomdilhaaGreatDoor.Cron
