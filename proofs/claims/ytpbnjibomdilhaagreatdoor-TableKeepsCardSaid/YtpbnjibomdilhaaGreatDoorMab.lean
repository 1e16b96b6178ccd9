/- A field's text, as mathematics: number by number, as the reference has it, and run by run, as the program has it. Expressions: five fields as one value, in a block of a call's own; what may be, their texts, what fits; what lies in the world when a call begins. How long a field's text is. -/
import Derived.Test.YtpbnjibomdilhaaGreatDoorMaa
import Derived.Lib.ItoaNum
import Derived.Lib.Join
namespace Go.Proofs.YtpbnjibomdilhaaGreatDoor.Fld
open Go

def dig (n : Nat) : List UInt8 := Lib.decDigits n
theorem dig_some : ∀ n : Fin 64, dig n.val ≠ [] ∧ (dig n.val).length ≤ 2 ∧ (∀ c ∈ dig n.val, 48 ≤ c.toNat ∧ c.toNat ≤ 57) := by
  intro n
  by_cases h : n.val < 10
  · unfold dig
    rw [Lib.decDigits_one h]
    refine ⟨by simp, by simp, fun c hc => ?_⟩
    rw [List.mem_singleton.1 hc]
    have : (UInt8.ofNat (48 + n.val)).toNat = 48 + n.val := by simp; omega
    omega
  · unfold dig
    rw [Lib.decDigits_two h (by have := n.isLt; omega)]
    refine ⟨by simp, by simp, fun c hc => ?_⟩
    have h1 : (UInt8.ofNat (48 + n.val / 10)).toNat = 48 + n.val / 10 := by simp; have := n.isLt; omega
    have h2 : (UInt8.ofNat (48 + n.val % 10)).toNat = 48 + n.val % 10 := by simp; omega
    simp only [List.mem_cons, List.not_mem_nil, or_false] at hc
    have := n.isLt
    rcases hc with rfl | rfl <;> omega
theorem dig_ne {n : Nat} (h : n < 64) : dig n ≠ [] := (dig_some ⟨n, h⟩).1
def run (x y : Nat) : List UInt8 := if y = x then dig x else if y = x + 1 then dig x ++ [44] ++ dig y else dig x ++ [45] ++ dig y
theorem run_ne {x y : Nat} (h : x < 64) : run x y ≠ [] := by
  unfold run
  have := dig_ne h
  split
  · exact this
  · split <;> simp

/-- the reference's step -/
def comma (s : List UInt8) : List UInt8 := if s = [] then [] else s ++ [44]
def st (b n : Nat) (s : List UInt8) : List UInt8 :=
  if has b (n : Int) = false then s
  else if (has b ((n : Int) - 1) && (has b ((n : Int) - 2) || has b ((n : Int) + 1))) = true then (if has b ((n : Int) + 1) = true then s else s ++ [45] ++ dig n)
  else comma s ++ dig n
def bodyTo (b : Nat) : Nat → List UInt8
  | 0 => []
  | n + 1 => st b n (bodyTo b n)
def body (b : Nat) : List UInt8 := bodyTo b 64

/-- a field's runs from a number on -/
inductive Runs (b : Nat) : Nat → List (Nat × Nat) → Prop
  | stop {n : Nat} (h : first b (n : Int) = none) : Runs b n []
  | next {n x y : Nat} {rs : List (Nat × Nat)} (h : first b (n : Int) = some x) (hxy : x ≤ y) (hall : ∀ m, x ≤ m → m ≤ y → b.testBit m = true) (hend : b.testBit (y + 1) = false) (hr : Runs b (y + 1) rs) : Runs b n ((x, y) :: rs)
def Front (b : Nat) (pre : List (Nat × Nat)) (n : Nat) : Prop := ∀ rs, Runs b n rs → Runs b 0 (pre ++ rs)
theorem Front.start (b : Nat) : Front b [] 0 := fun _ h => h
theorem Front.more {b : Nat} {pre : List (Nat × Nat)} {n x y : Nat} (hf : Front b pre n) (h : first b (n : Int) = some x) (hxy : x ≤ y) (hall : ∀ m, x ≤ m → m ≤ y → b.testBit m = true) (hend : b.testBit (y + 1) = false) : Front b (pre ++ [(x, y)]) (y + 1) := fun rs hr => by
  rw [List.append_assoc]
  exact hf _ (.next h hxy hall hend hr)
theorem Front.done {b : Nat} {pre : List (Nat × Nat)} {n : Nat} (hf : Front b pre n) (h : first b (n : Int) = none) : Runs b 0 pre := by
  have := hf [] (.stop h)
  rwa [List.append_nil] at this

theorem gap {b : Nat} : ∀ (d n : Nat), (∀ j, n ≤ j → j < n + d → has b (j : Int) = false) → bodyTo b (n + d) = bodyTo b n
  | 0, _, _ => rfl
  | d + 1, n, h => by
    show st b (n + d) (bodyTo b (n + d)) = _
    unfold st
    rw [if_pos (h (n + d) (by omega) (by omega))]
    exact gap d n fun j h1 h2 => h j h1 (by omega)
theorem mid {b x y : Nat} (hall : ∀ m, x ≤ m → m ≤ y → has b (m : Int) = true) : ∀ d, x + 1 + d ≤ y → bodyTo b (x + 1 + d) = bodyTo b (x + 1)
  | 0, _ => rfl
  | d + 1, h => by
    show st b (x + 1 + d) (bodyTo b (x + 1 + d)) = _
    rw [mid hall d (by omega)]
    have h0 : has b ((x + 1 + d : Nat) : Int) = true := hall (x + 1 + d) (by omega) (by omega)
    have h1 : has b (((x + 1 + d : Nat) : Int) - 1) = true := by
      rw [show ((x + 1 + d : Nat) : Int) - 1 = ((x + d : Nat) : Int) by omega]; exact hall (x + d) (by omega) (by omega)
    have h2 : has b (((x + 1 + d : Nat) : Int) + 1) = true := by
      rw [show ((x + 1 + d : Nat) : Int) + 1 = ((x + 1 + d + 1 : Nat) : Int) by omega]; exact hall _ (by omega) (by omega)
    unfold st
    rw [h0, h1, h2]
    simp
theorem runStep {b x y : Nat} (hxy : x ≤ y) (hall : ∀ m, x ≤ m → m ≤ y → has b (m : Int) = true) (hpre : has b ((x : Int) - 1) = false) (hend : has b ((y : Int) + 1) = false) (hy : y < 64) :
    bodyTo b (y + 1) = comma (bodyTo b x) ++ run x y := by
  have hx : has b (x : Int) = true := hall x (Nat.le_refl _) hxy
  have hA : bodyTo b (x + 1) = comma (bodyTo b x) ++ dig x := by
    show st b x (bodyTo b x) = _
    unfold st
    rw [hx, hpre]
    simp
  have hne : comma (bodyTo b x) ++ dig x ≠ [] := by have := dig_ne (show x < 64 by omega); simp [this]
  by_cases e0 : y = x
  · subst e0
    rw [hA]
    unfold run
    rw [if_pos rfl]
  · by_cases e1 : y = x + 1
    · subst e1
      show st b (x + 1) (bodyTo b (x + 1)) = _
      have h0 : has b ((x + 1 : Nat) : Int) = true := hall (x + 1) (by omega) (Nat.le_refl _)
      have h2 : has b (((x + 1 : Nat) : Int) - 2) = false := by rw [show ((x + 1 : Nat) : Int) - 2 = (x : Int) - 1 by omega]; exact hpre
      rw [hA]
      unfold st run
      rw [h0, h2, hend, if_neg e0, if_pos rfl]
      have : comma (comma (bodyTo b x) ++ dig x) = comma (bodyTo b x) ++ dig x ++ [44] := if_neg hne
      simp only [Bool.or_self, Bool.and_false, Bool.false_eq_true, if_false, this]
      simp
    · obtain ⟨d, rfl⟩ : ∃ d, y = x + 2 + d := ⟨y - x - 2, by omega⟩
      have hm := mid hall (d + 1) (by omega)
      rw [show x + 1 + (d + 1) = x + 2 + d by omega] at hm
      show st b (x + 2 + d) (bodyTo b (x + 2 + d)) = _
      have h0 : has b ((x + 2 + d : Nat) : Int) = true := hall _ (by omega) (Nat.le_refl _)
      have h1 : has b (((x + 2 + d : Nat) : Int) - 1) = true := by
        rw [show ((x + 2 + d : Nat) : Int) - 1 = ((x + 1 + d : Nat) : Int) by omega]; exact hall _ (by omega) (by omega)
      have h2 : has b (((x + 2 + d : Nat) : Int) - 2) = true := by
        rw [show ((x + 2 + d : Nat) : Int) - 2 = ((x + d : Nat) : Int) by omega]; exact hall _ (by omega) (by omega)
      rw [hm, hA]
      unfold st run
      rw [h0, h1, h2, hend, if_neg e0, if_neg e1]
      simp

/-- runs, one behind the other, behind what stands already -/
def glue (s : List UInt8) (rs : List (Nat × Nat)) : List UInt8 := rs.foldl (fun s r => comma s ++ run r.1 r.2) s
theorem glue_tail : ∀ (rs : List (Nat × Nat)) (s : List UInt8), s ≠ [] → (∀ r ∈ rs, r.1 < 64) → glue s rs = s ++ Lib.joinTail [44] (rs.map fun r => run r.1 r.2)
  | [], s, _, _ => by simp [glue, Lib.joinTail]
  | r :: rs, s, hs, h => by
    have hr := run_ne (y := r.2) (h r (by simp))
    have hn : s ++ [44] ++ run r.1 r.2 ≠ [] := by simp
    show glue (comma s ++ run r.1 r.2) rs = _
    have hc : comma s = s ++ [44] := if_neg hs
    rw [hc, glue_tail rs _ hn fun q hq => h q (by simp [hq])]
    simp [Lib.joinTail]
theorem glue_join (rs : List (Nat × Nat)) (h : ∀ r ∈ rs, r.1 < 64) : glue [] rs = Lib.join (rs.map fun r => run r.1 r.2) [44] := by
  cases rs with
  | nil => rfl
  | cons r rs =>
    show glue (comma [] ++ run r.1 r.2) rs = _
    rw [List.map_cons, Lib.join_cons, glue_tail rs _ (by show [] ++ run r.1 r.2 ≠ []; exact run_ne (h r (by simp))) fun q hq => h q (by simp [hq])]
    rfl
theorem runs_glue {b : Nat} (hb : b < 2 ^ 64) {n : Nat} {rs : List (Nat × Nat)} (hr : Runs b n rs) : n ≤ 64 → (has b ((n : Int) - 1) = false ∨ b.testBit n = false) → bodyTo b 64 = glue (bodyTo b n) rs ∧ ∀ r ∈ rs, n ≤ r.1 ∧ r.1 ≤ r.2 ∧ r.2 < 64 ∧ ∀ m, r.1 ≤ m → m ≤ r.2 → b.testBit m = true := by
  induction hr with
  | @stop n h =>
    intro hn _
    refine ⟨?_, by simp⟩
    obtain ⟨d, hd⟩ : ∃ d, 64 = n + d := ⟨64 - n, by omega⟩
    rw [hd]
    exact gap d n fun j h1 h2 => by rw [has_nat hb]; exact first_none.1 h j (by omega) (by omega)
  | @next n x y rs h hxy hall hend hr ih =>
    intro hn hp
    obtain ⟨h64, hnx, hbx, hno⟩ := first_spec h
    have hy : y < 64 := by
      rcases Nat.lt_or_ge y 64 with h' | h'
      · exact h'
      · have := hall y hxy (Nat.le_refl _)
        rw [Nat.testBit_lt_two_pow (Nat.lt_of_lt_of_le hb (Nat.pow_le_pow_right (n := 2) (by decide) h'))] at this
        simp at this
    have hpre : has b ((x : Int) - 1) = false := by
      by_cases e : x = n
      · rw [e] at hbx ⊢
        rcases hp with hp | hp
        · exact hp
        · rw [hp] at hbx; simp at hbx
      · rw [show (x : Int) - 1 = ((x - 1 : Nat) : Int) by omega, has_nat hb]
        exact hno (x - 1) (by omega) (by omega)
    have hend' : has b ((y : Int) + 1) = false := by rw [show (y : Int) + 1 = ((y + 1 : Nat) : Int) by omega, has_nat hb]; exact hend
    have hall' : ∀ m, x ≤ m → m ≤ y → has b (m : Int) = true := fun m h1 h2 => by rw [has_nat hb]; exact hall m h1 h2
    have hstep := runStep hxy hall' hpre hend' hy
    have hgap : bodyTo b x = bodyTo b n := by
      obtain ⟨d, rfl⟩ : ∃ d, x = n + d := ⟨x - n, by omega⟩
      exact gap d n fun j h1 h2 => by rw [has_nat hb]; exact hno j (by omega) h2
    obtain ⟨i1, i2⟩ := ih (by omega) (.inr hend)
    refine ⟨?_, ?_⟩
    · rw [i1, hstep, hgap]; rfl
    · intro r hr
      rcases List.mem_cons.1 hr with rfl | hr
      · exact ⟨by omega, hxy, hy, hall⟩
      · have := i2 r hr
        exact ⟨by omega, this.2⟩
theorem body_runs {b : Nat} (hb : b < 2 ^ 64) {rs : List (Nat × Nat)} (hr : Runs b 0 rs) : body b = Lib.join (rs.map fun r => run r.1 r.2) [44] ∧ ∀ r ∈ rs, r.1 ≤ r.2 ∧ r.2 < 64 ∧ ∀ m, r.1 ≤ m → m ≤ r.2 → b.testBit m = true := by
  obtain ⟨h1, h2⟩ := runs_glue hb hr (by omega) (.inl (has_out (by omega)))
  refine ⟨?_, fun r hr => (h2 r hr).2⟩
  rw [← glue_join rs fun r hr => by have := h2 r hr; omega]
  exact h1
/-- all that is allowed lies in a run -/
theorem runs_cover {b : Nat} {n : Nat} {rs : List (Nat × Nat)} (hr : Runs b n rs) : ∀ m, n ≤ m → m < 64 → b.testBit m = true → ∃ r ∈ rs, r.1 ≤ m ∧ m ≤ r.2 := by
  induction hr with
  | @stop n h =>
    intro m h1 h2 hm
    have := first_none.1 h m (by omega) h2
    rw [hm] at this; simp at this
  | @next n x y rs h hxy hall hend hr ih =>
    intro m h1 h2 hm
    obtain ⟨h64, hnx, hbx, hno⟩ := first_spec h
    by_cases e : m < x
    · have := hno m (by omega) e
      rw [hm] at this; simp at this
    · by_cases e2 : m ≤ y
      · exact ⟨(x, y), by simp, by omega, e2⟩
      · obtain ⟨r, hr, h3⟩ := ih m (by omega) h2 hm
        exact ⟨r, by simp [hr], h3⟩
/-- all numbers of a kind -/
def all (k : Nat) : Nat := 2 ^ (hi k + 1) - 2 ^ lo k
theorem all_five : all 0 = 1152921504606846975 ∧ all 1 = 16777215 ∧ all 2 = 4294967294 ∧ all 3 = 8190 ∧ all 4 = 127 := by decide
theorem all_test : ∀ (k : Fin 5) (m : Fin 64), (all k.val).testBit m.val = (decide (lo k.val ≤ m.val) && decide (m.val ≤ hi k.val)) := by decide
theorem all_lt {k : Nat} (hk : k ≤ 4) : all k < 18446744073709551616 := by
  rcases kinds hk with rfl | rfl | rfl | rfl | rfl <;> decide
theorem all_bit {k m : Nat} (hk : k ≤ 4) : (all k).testBit m = (decide (lo k ≤ m) && decide (m ≤ hi k)) := by
  by_cases h : m < 64
  · exact all_test ⟨k, by omega⟩ ⟨m, h⟩
  · have h1 := (hi_le hk).2.1
    rw [Nat.testBit_lt_two_pow (Nat.lt_of_lt_of_le (all_lt hk) (Nat.pow_le_pow_right (n := 2) (i := 64) (by decide) (by omega))), decide_eq_false (show ¬ m ≤ hi k by omega), Bool.and_false]
/-- whether a field may be of a kind -/
def may (k : Int) (b : Nat) : Bool := decide (0 ≤ k) && (decide (k ≤ 4) && (decide (b ≠ 0) && decide (b &&& (18446744073709551615 - all k.toNat) = 0)))
theorem may_out {k : Int} {b : Nat} (h : ¬ (0 ≤ k ∧ k ≤ 4)) : may k b = false := by
  unfold may
  by_cases h0 : 0 ≤ k
  · rw [decide_eq_true h0, decide_eq_false (show ¬ k ≤ 4 by omega)]; rfl
  · rw [decide_eq_false h0]; rfl
theorem may_in {k b : Nat} (hk : k ≤ 4) : may (k : Int) b = (decide (b ≠ 0) && decide (b &&& (18446744073709551615 - all k) = 0)) := by
  unfold may
  rw [decide_eq_true (show (0 : Int) ≤ (k : Int) by omega), decide_eq_true (show (k : Int) ≤ 4 by omega), Int.toNat_natCast]
  rfl
theorem rest_zero {k b : Nat} (hk : k ≤ 4) (hb : b < 2 ^ 64) : b &&& (18446744073709551615 - all k) = 0 ↔ ∀ m, b.testBit m = true → lo k ≤ m ∧ m ≤ hi k := by
  have hsub : 18446744073709551615 - all k = 2 ^ 64 - (all k + 1) := by
    have : (2 : Nat) ^ 64 = 18446744073709551616 := by decide
    omega
  have hT : ∀ m, (b &&& (18446744073709551615 - all k)).testBit m = (b.testBit m && (decide (m < 64) && !(decide (lo k ≤ m) && decide (m ≤ hi k)))) := fun m => by
    rw [Nat.testBit_and, hsub, Nat.testBit_two_pow_sub_succ (all_lt hk), all_bit hk]
  constructor
  · intro h m hm
    have h64 : m < 64 := by
      rcases Nat.lt_or_ge m 64 with h' | h'
      · exact h'
      · rw [Nat.testBit_lt_two_pow (Nat.lt_of_lt_of_le hb (Nat.pow_le_pow_right (n := 2) (by decide) h'))] at hm; simp at hm
    have := hT m
    rw [h, hm, Nat.zero_testBit, decide_eq_true h64] at this
    simp at this
    exact this
  · intro h
    refine Nat.eq_of_testBit_eq fun m => ?_
    rw [hT, Nat.zero_testBit]
    cases hm : b.testBit m
    · rfl
    · obtain ⟨h1, h2⟩ := h m hm
      simp [h1, h2]
theorem may_iff {k b : Nat} (hk : k ≤ 4) (hb : b < 2 ^ 64) : may (k : Int) b = true ↔ b ≠ 0 ∧ ∀ m, b.testBit m = true → lo k ≤ m ∧ m ≤ hi k := by
  rw [may_in hk, Bool.and_eq_true, decide_eq_true_eq, decide_eq_true_eq, rest_zero hk hb]
/-- a field's text -/
def text (k : Int) (b : Nat) (star : Bool) : List UInt8 := if may k b = true then (if star = true ∧ b = all k.toNat then [42] else body b) else []
end Go.Proofs.YtpbnjibomdilhaaGreatDoor.Fld

namespace Go.Proofs.YtpbnjibomdilhaaGreatDoor
open Go.RowKit

/-- an expression's cells: its fields' bits, and whether each is free -/
def xcells (b : Nat → Nat) (s : Nat → Bool) : Array Value :=
  #[.int .u64 ((b 0 : Nat) : Int), .bool (s 0), .int .u64 ((b 1 : Nat) : Int), .bool (s 1), .int .u64 ((b 2 : Nat) : Int), .bool (s 2), .int .u64 ((b 3 : Nat) : Int), .bool (s 3), .int .u64 ((b 4 : Nat) : Int), .bool (s 4)]
def xval (b : Nat → Nat) (s : Nat → Bool) : Value := .agg (xcells b s)
def xobj (b : Nat → Nat) (s : Nat → Bool) : Obj := .cells (xcells b s) 101 (0, 0)
theorem five {P : Nat → Prop} (h0 : P 0) (h1 : P 1) (h2 : P 2) (h3 : P 3) (h4 : P 4) : ∀ i, i < 5 → P i := by
  intro i hi
  have : i = 0 ∨ i = 1 ∨ i = 2 ∨ i = 3 ∨ i = 4 := by omega
  rcases this with rfl | rfl | rfl | rfl | rfl <;> assumption
theorem index_expr (b : Nat → Nat) (s : Nat → Bool) (i : Nat) (hi : i < 5) (w : World) : (Instr.index 101 (.agg (xcells b s)) (.int .i64 (i : Int))).run Tryz.prog w = .ok (fval (b i) (s i)) w := by
  revert i
  refine five ?_ ?_ ?_ ?_ ?_ <;> simp [Instr.index, run_underlying Tryz.underlying101, asIntOf, go_sem, xcells, fval]
structure OwnX (w : World) (B : Nat) (b : Nat → Nat) (s : Nat → Bool) (W : World) : Prop where
  bel : Below w.heap.size w W
  at_ : w.heap.size ≤ B
  siz : B < W.heap.size
  row : W.heap[B]? = some (xobj b s)
theorem OwnX.newAt {w W : World} (hb : Below w.heap.size w W) (b : Nat → Nat) (s : Nat → Bool) : OwnX w W.heap.size b s (W.alloc (.cells #[.int .u64 ((b 0 : Nat) : Int), .bool (s 0), .int .u64 ((b 1 : Nat) : Int), .bool (s 1), .int .u64 ((b 2 : Nat) : Int), .bool (s 2), .int .u64 ((b 3 : Nat) : Int), .bool (s 3), .int .u64 ((b 4 : Nat) : Int), .bool (s 4)] 101)) :=
  ⟨hb.alloc hb.size _, hb.size, by simp, heap_alloc_new W _⟩
theorem OwnX.new (w : World) (b : Nat → Nat) (s : Nat → Bool) : OwnX w w.heap.size b s (w.alloc (.cells #[.int .u64 ((b 0 : Nat) : Int), .bool (s 0), .int .u64 ((b 1 : Nat) : Int), .bool (s 1), .int .u64 ((b 2 : Nat) : Int), .bool (s 2), .int .u64 ((b 3 : Nat) : Int), .bool (s 3), .int .u64 ((b 4 : Nat) : Int), .bool (s 4)] 101)) := OwnX.newAt (Below.refl _ _) b s
theorem OwnX.below {w : World} {B : Nat} {b : Nat → Nat} {s : Nat → Bool} {W W' : World} (o : OwnX w B b s W) (hb : Below W.heap.size W W') : OwnX w B b s W' :=
  ⟨o.bel.trans (hb.mono o.bel.size), o.at_, Nat.lt_of_lt_of_le o.siz hb.size, (hb.block _ o.siz).trans o.row⟩
theorem OwnX.drew {w : World} {B : Nat} {b : Nat → Nat} {s : Nat → Bool} {W : World} (o : OwnX w B b s W) : OwnX w B b s W.drew := o.below (Below.refl _ _).drew
theorem OwnX.alloc {w : World} {B : Nat} {b : Nat → Nat} {s : Nat → Bool} {W : World} (o : OwnX w B b s W) (x : Obj) : OwnX w B b s (W.alloc x) := o.below ((Below.refl _ _).alloc (Nat.le_refl _) x)
theorem xobj_cells {W : World} {B : Nat} {b : Nat → Nat} {s : Nat → Bool} (h : W.heap[B]? = some (xobj b s)) :
    W.cell? ⟨B, 0, none⟩ = some (.int .u64 ((b 0 : Nat) : Int)) ∧ W.cell? ⟨B, 1, none⟩ = some (.bool (s 0)) ∧ W.cell? ⟨B, 2, none⟩ = some (.int .u64 ((b 1 : Nat) : Int)) ∧ W.cell? ⟨B, 3, none⟩ = some (.bool (s 1)) ∧
    W.cell? ⟨B, 4, none⟩ = some (.int .u64 ((b 2 : Nat) : Int)) ∧ W.cell? ⟨B, 5, none⟩ = some (.bool (s 2)) ∧ W.cell? ⟨B, 6, none⟩ = some (.int .u64 ((b 3 : Nat) : Int)) ∧ W.cell? ⟨B, 7, none⟩ = some (.bool (s 3)) ∧
    W.cell? ⟨B, 8, none⟩ = some (.int .u64 ((b 4 : Nat) : Int)) ∧ W.cell? ⟨B, 9, none⟩ = some (.bool (s 4)) :=
  ⟨cell_of_row _ B 0 _ _ _ h, cell_of_row _ B 1 _ _ _ h, cell_of_row _ B 2 _ _ _ h, cell_of_row _ B 3 _ _ _ h, cell_of_row _ B 4 _ _ _ h, cell_of_row _ B 5 _ _ _ h, cell_of_row _ B 6 _ _ _ h, cell_of_row _ B 7 _ _ _ h, cell_of_row _ B 8 _ _ _ h, cell_of_row _ B 9 _ _ _ h⟩
theorem xobj_at {W : World} {B : Nat} {b : Nat → Nat} {s : Nat → Bool} (h : W.heap[B]? = some (xobj b s)) : ∀ i, i < 5 → W.cell? ⟨B, i * 2, none⟩ = some (.int .u64 ((b i : Nat) : Int)) ∧ W.cell? ⟨B, i * 2 + 1, none⟩ = some (.bool (s i)) := by
  obtain ⟨c0, c1, c2, c3, c4, c5, c6, c7, c8, c9⟩ := xobj_cells h
  exact five ⟨c0, c1⟩ ⟨c2, c3⟩ ⟨c4, c5⟩ ⟨c6, c7⟩ ⟨c8, c9⟩

namespace Cron
open Fld
/-- whether an expression may be -/
def may (b : Nat → Nat) : Bool := (List.range 5).all fun (k : Nat) => Fld.may (k : Int) (b k)
theorem may_iff {b : Nat → Nat} : may b = true ↔ ∀ k : Nat, k < 5 → Fld.may (k : Int) (b k) = true := by
  unfold may
  rw [List.all_eq_true]
  exact ⟨fun h k hk => h k (List.mem_range.2 hk), fun h k hk => h k (List.mem_range.1 hk)⟩
theorem may_not {b : Nat → Nat} (k : Nat) (hk : k < 5) (h : Fld.may (k : Int) (b k) = false) : may b = false := by
  cases e : may b
  · rfl
  · rw [may_iff.1 e k hk] at h; cases h
/-- the first fields' texts, with one blank between -/
def upto (b : Nat → Nat) (s : Nat → Bool) : Nat → List UInt8
  | 0 => Fld.text 0 (b 0) (s 0)
  | k + 1 => upto b s k ++ 32 :: Fld.text ((k + 1 : Nat) : Int) (b (k + 1)) (s (k + 1))
/-- an expression's text -/
def text (b : Nat → Nat) (s : Nat → Bool) : List UInt8 := if may b = true then upto b s 4 else []
/-- whether a clock's month and its day fit -/
def days (b : Nat → Nat) (s : Nat → Bool) (m d k : Int) : Bool := Fld.has (b 3) m && (if s 2 = true ∨ s 4 = true then Fld.has (b 2) d && Fld.has (b 4) k else Fld.has (b 2) d || Fld.has (b 4) k)
end Cron

end Go.Proofs.YtpbnjibomdilhaaGreatDoor

namespace Go.Proofs.YtpbnjibomdilhaaGreatDoor.Fld
open Go

theorem dig_len {n : Nat} (h : n < 64) : (dig n).length ≤ 2 := (dig_some ⟨n, h⟩).2.1
theorem run_len {x y : Nat} (hxy : x ≤ y) (hy : y < 64) : (run x y).length + 1 ≤ 2 * (y - x + 2) := by
  have h1 := dig_len (show x < 64 by omega)
  have h2 := dig_len hy
  unfold run
  split
  · omega
  · split
    · simp only [List.length_append, List.length_cons, List.length_nil]; omega
    · simp only [List.length_append, List.length_cons, List.length_nil]; omega
def cost : List (Nat × Nat) → Nat
  | [] => 0
  | r :: rs => (run r.1 r.2).length + 1 + cost rs
theorem join_cost : ∀ rs : List (Nat × Nat), (Lib.join (rs.map fun r => run r.1 r.2) [44]).length ≤ cost rs
  | [] => by simp [Lib.join_nil]
  | [r] => by rw [List.map_cons, List.map_nil, Lib.join_one]; simp [cost]
  | r :: q :: rs => by
    have ih := join_cost (q :: rs)
    rw [List.map_cons, Lib.join_cons, Lib.joinTail, List.map_cons] at *
    simp only [List.map_cons, List.flatten_cons, List.length_append, List.length_cons, List.length_nil, cost] at *
    omega
theorem first_after {b y x : Nat} (hend : b.testBit (y + 1) = false) (h : first b ((y + 1 : Nat) : Int) = some x) : y + 2 ≤ x := by
  obtain ⟨_, h2, h3, _⟩ := first_spec h
  rcases Nat.lt_or_ge (y + 1) x with h4 | h4
  · omega
  · obtain rfl : x = y + 1 := by omega
    rw [hend] at h3; simp at h3
theorem cost_le {b n : Nat} {rs : List (Nat × Nat)} (hr : Runs b n rs) : (∀ r ∈ rs, r.1 ≤ r.2 ∧ r.2 < 64) → ∀ N, (∀ r ∈ rs.head?, N ≤ r.1) → cost rs ≤ 2 * (66 - N) := by
  induction hr with
  | stop h => intro _ N _; simp [cost]
  | @next n x y rs h hxy hall hend hr ih =>
    intro hA N hN
    have hx : N ≤ x := hN (x, y) (by simp)
    have hy : y < 64 := (hA (x, y) (by simp)).2
    have h1 := run_len hxy hy
    have h2 := ih (fun r hr => hA r (by simp [hr])) (y + 2) (fun r hr' => by
      cases hr with
      | stop h => simp at hr'
      | next h' _ _ _ _ =>
        simp at hr'
        rw [← hr']
        exact first_after hend h')
    simp only [cost]
    omega
theorem runs_len {b : Nat} {rs : List (Nat × Nat)} (hr : Runs b 0 rs) (h : ∀ r ∈ rs, r.1 ≤ r.2 ∧ r.2 < 64) : (Lib.join (rs.map fun r => run r.1 r.2) [44]).length ≤ 132 := by
  have h1 := cost_le hr h 0 (fun r _ => Nat.zero_le _)
  have h2 := join_cost rs
  omega
theorem runs_some {b : Nat} (h0 : b ≠ 0) (hb : b < 2 ^ 64) : ¬ Runs b 0 [] := by
  intro h
  cases h with
  | stop h =>
    obtain ⟨m, hm⟩ := Nat.exists_testBit_of_ne_zero h0
    have h64 : m < 64 := by
      rcases Nat.lt_or_ge m 64 with h' | h'
      · exact h'
      · rw [Nat.testBit_lt_two_pow (Nat.lt_of_lt_of_le hb (Nat.pow_le_pow_right (n := 2) (by decide) h'))] at hm; simp at hm
    have := first_none.1 h m (by omega) h64
    rw [hm] at this; simp at this
end Go.Proofs.YtpbnjibomdilhaaGreatDoor.Fld
