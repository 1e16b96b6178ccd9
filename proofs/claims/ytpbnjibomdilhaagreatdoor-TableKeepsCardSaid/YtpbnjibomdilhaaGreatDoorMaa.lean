/- What lies in the world when a call begins (the tables), a field in a block of a call's own, and the smallest functions of package field, by their contracts. field.Has, field.First, and the reference's, by their contracts. -/
import Derived.Test.YtpbnjibomdilhaaGreatDoorFld
import Derived.Test.YtpbnjibomdilhaaGreatDoorShelf
import Derived.Laws.Tables
import Derived.Laws.CopyOwn
import Derived.Laws.BitsAllLaws
import Derived.IntWalk
import Derived.BigQuiet
import Derived.Deep.RegionHeld
import Derived.RegionTactic
import Derived.BigRegion
import Derived.Deep.QuietTactic
namespace Go.Proofs.YtpbnjibomdilhaaGreatDoor
open Go.RowKit

theorem many_drew {B : Nat} {a w : World} (h : Below B a w) (n : Nat) : Below B a (w.drewN n) := h.trans ⟨rfl, rfl, rfl, Nat.le_refl _, fun _ _ => rfl⟩
theorem lt_of_cell {w : World} {a : Addr} {v : Value} (hc : w.cell? a = some v) : a.block < w.heap.size := by
  rcases Nat.lt_or_ge a.block w.heap.size with h' | h'
  · exact h'
  · simp [World.cell?, Array.getElem?_eq_none h'] at hc
theorem stays {w w' : World} {a : Addr} {v : Value} (hb : Below w.heap.size w w') (hc : w.cell? a = some v) : w'.cell? a = some v := (hb.cell (lt_of_cell hc)).trans hc
def ba (l : List UInt8) : ByteArray := ⟨l.toArray⟩
theorem ba_list (l : List UInt8) : (ba l).data.toList = l := rfl
theorem ba_self (s : ByteArray) : ba s.data.toList = s := rfl
theorem ba_size (l : List UInt8) : (ba l).size = l.length := by rw [Lib.size_eq]; rfl

/-- the tables of the program and of Go's library, as far as they are read -/
structure Tabs (w : World) : Prop where
  low : ∀ k, k ≤ 4 → w.cell? ⟨1, k * 2, none⟩ = some (.int .i64 (Fld.lo k : Int)) ∧ w.cell? ⟨1, k * 2 + 1, none⟩ = some (.int .i64 (Fld.hi k : Int))
  nam : ∀ k i, k ≤ 4 → i < 12 → w.cell? ⟨2, k * 12 + i, none⟩ = some (.string (ba ((Fld.names k).getD i [])))
  mx : ∃ m, w.cell? ⟨3, 0, none⟩ = some (.int .i64 m)
  syn : ∃ te pe, w.cell? ⟨9, 0, none⟩ = some (.iface te pe)
  rng : ∃ te pe, w.cell? ⟨10, 0, none⟩ = some (.iface te pe)
  utf : Lib.Utf8Tabs 4 5 w
  asc : ∀ c : Nat, 97 ≤ c → c ≤ 122 → c ≠ 107 → c ≠ 115 → w.cell? ⟨6, c, none⟩ = some (.int .u16 ((c : Int) - 32))
  asc2 : ∀ c : Nat, 65 ≤ c → c ≤ 90 → c ≠ 75 → c ≠ 83 → w.cell? ⟨6, c, none⟩ = some (.int .u16 ((c : Int) + 32))
  ess : w.cell? ⟨6, 115, none⟩ = some (.int .u16 383) ∧ w.cell? ⟨6, 83, none⟩ = some (.int .u16 115)
  tz : ∀ i : Nat, i < 64 → w.cell? ⟨13, ((2 ^ i * 285870213051353865) % 18446744073709551616 / 288230376151711744 : Nat), none⟩ = some (.int .u8 (i : Int))
  orb : ∃ b o c, w.cell? ⟨7, 0, none⟩ = some (.slice (some ⟨b, o, none⟩) 94 c) ∧ 94 ≤ c ∧ w.cell? ⟨b, o + 94, none⟩ = some (.int .u16 966) ∧ w.cell? ⟨b, o + 46, none⟩ = some (.int .u16 837) ∧ w.cell? ⟨b, o + 22, none⟩ = some (.int .u16 452) ∧
    w.cell? ⟨b, o + 10, none⟩ = some (.int .u16 197) ∧ w.cell? ⟨b, o + 16, none⟩ = some (.int .u16 304) ∧ w.cell? ⟨b, o + 20, none⟩ = some (.int .u16 383) ∧ w.cell? ⟨b, o + 18, none⟩ = some (.int .u16 305) ∧ w.cell? ⟨b, o + 21, none⟩ = some (.int .u16 83)
theorem Tabs.below {w w' : World} (h : Tabs w) (hb : Below w.heap.size w w') : Tabs w' where
  low k hk := ⟨stays hb (h.low k hk).1, stays hb (h.low k hk).2⟩
  nam k i hk hi := stays hb (h.nam k i hk hi)
  mx := let ⟨m, hm⟩ := h.mx; ⟨m, stays hb hm⟩
  syn := let ⟨m, p, hm⟩ := h.syn; ⟨m, p, stays hb hm⟩
  rng := let ⟨m, p, hm⟩ := h.rng; ⟨m, p, stays hb hm⟩
  utf := Utf8Tabs_below h.utf hb
  asc c h1 h2 h3 h4 := stays hb (h.asc c h1 h2 h3 h4)
  asc2 c h1 h2 h3 h4 := stays hb (h.asc2 c h1 h2 h3 h4)
  ess := ⟨stays hb h.ess.1, stays hb h.ess.2⟩
  tz i hi := stays hb (h.tz i hi)
  orb := let ⟨b, o, c, h0, hc, h1, h2, h3, h4, h5, h6, h7, h8⟩ := h.orb; ⟨b, o, c, stays hb h0, hc, stays hb h1, stays hb h2, stays hb h3, stays hb h4, stays hb h5, stays hb h6, stays hb h7, stays hb h8⟩
def TabsOn (w : World) : Prop := ∀ W, Below w.heap.size w W → Tabs W
theorem TabsOn.on {w W : World} (h : TabsOn w) (hb : Below w.heap.size w W) : Tabs W := h W hb
theorem TabsOn.of {w : World} (h : Tabs w) : TabsOn w := fun _ hb => h.below hb
theorem TabsOn.here {w : World} (h : TabsOn w) : Tabs w := h w (Below.refl _ _)
theorem TabsOn.next {w w' : World} (h : TabsOn w) (hb : Below w.heap.size w w') : TabsOn w' := TabsOn.of (h.on hb)

/-- a field in a block of the call's own -/
def fobj (b : Nat) (star : Bool) : Obj := .cells #[.int .u64 (b : Int), .bool star] 99 (0, 0)
structure OwnF (w : World) (B : Nat) (b : Nat) (star : Bool) (W : World) : Prop where
  bel : Below w.heap.size w W
  at_ : w.heap.size ≤ B
  siz : B < W.heap.size
  row : W.heap[B]? = some (fobj b star)
theorem OwnF.newAt {w W : World} (hb : Below w.heap.size w W) (b : Nat) (star : Bool) : OwnF w W.heap.size b star (W.alloc (.cells #[.int .u64 (b : Int), .bool star] 99)) :=
  ⟨hb.alloc hb.size _, hb.size, by simp, heap_alloc_new W _⟩
theorem OwnF.new (w : World) (b : Nat) (star : Bool) : OwnF w w.heap.size b star (w.alloc (.cells #[.int .u64 (b : Int), .bool star] 99)) := OwnF.newAt (Below.refl _ _) b star
theorem OwnF.below {w : World} {B b : Nat} {star : Bool} {W W' : World} (o : OwnF w B b star W) (hb : Below W.heap.size W W') : OwnF w B b star W' :=
  ⟨o.bel.trans (hb.mono o.bel.size), o.at_, Nat.lt_of_lt_of_le o.siz hb.size, (hb.block _ o.siz).trans o.row⟩
theorem OwnF.drew {w : World} {B b : Nat} {star : Bool} {W : World} (o : OwnF w B b star W) : OwnF w B b star W.drew := o.below (Below.refl _ _).drew
theorem OwnF.alloc {w : World} {B b : Nat} {star : Bool} {W : World} (o : OwnF w B b star W) (x : Obj) : OwnF w B b star (W.alloc x) := o.below ((Below.refl _ _).alloc (Nat.le_refl _) x)
theorem OwnF.cells {w : World} {B b : Nat} {star : Bool} {W : World} (o : OwnF w B b star W) : W.cell? ⟨B, 0, none⟩ = some (.int .u64 (b : Int)) ∧ W.cell? ⟨B, 1, none⟩ = some (.bool star) :=
  ⟨cell_of_row _ B 0 _ _ _ o.row, cell_of_row _ B 1 _ _ _ o.row⟩
theorem row_free {w : World} {B : Nat} {cs : Array Value} {t : TypeId} (hr : w.heap[B]? = some (.cells cs t (0, 0))) (j : Nat) : w.frozen? ⟨B, j, none⟩ = false := by
  simp [World.frozen?, hr]
theorem OwnF.free {w : World} {B b : Nat} {star : Bool} {W : World} (o : OwnF w B b star W) (j : Nat) : W.frozen? ⟨B, j, none⟩ = false := row_free o.row j
theorem row_set {w : World} {B : Nat} {c : Array Value} {t : TypeId} {f : Nat × Nat} (hr : w.heap[B]? = some (.cells c t f)) (j : Nat) (v : Value) : (w.setCell ⟨B, j, none⟩ v).heap[B]? = some (.cells (c.setIfInBounds j v) t f) := by
  have hlt := lt_of_block hr
  have h' : w.heap[B] = .cells c t f := by simpa [Array.getElem?_eq_getElem hlt] using hr
  show (w.heap.modify B _)[B]? = _
  rw [Array.getElem?_eq_getElem (by simpa using hlt), Array.getElem_modify_self, h']
  rfl
theorem OwnF.set {w : World} {B b : Nat} {star : Bool} {W : World} (o : OwnF w B b star W) (b' : Nat) : OwnF w B b' star (W.setCell ⟨B, 0, none⟩ (.int .u64 (b' : Int))) :=
  ⟨o.bel.setCell (p := ⟨B, 0, none⟩) o.at_ _, o.at_, by simpa using o.siz, row_set o.row 0 _⟩
theorem set_else {W : World} {B C : Nat} {j : Nat} {v : Value} (h : C ≠ B) : (W.setCell ⟨C, j, none⟩ v).heap[B]? = W.heap[B]? := by
  show (W.heap.modify C _)[B]? = _
  rw [Array.getElem?_modify, if_neg h]
theorem OwnF.other {w : World} {B b : Nat} {star : Bool} {W : World} (o : OwnF w B b star W) {C : Nat} (hC : w.heap.size ≤ C) (hne : C ≠ B) (j : Nat) (v : Value) : OwnF w B b star (W.setCell ⟨C, j, none⟩ v) :=
  ⟨o.bel.setCell (p := ⟨C, j, none⟩) hC _, o.at_, by simpa using o.siz, by rw [set_else hne]; exact o.row⟩
theorem OwnF.put {w : World} {B b : Nat} {star : Bool} {W : World} (o : OwnF w B b star W) (b' : Nat) (star' : Bool) : OwnF w B b' star' (W.setRow B #[.int .u64 (b' : Int), .bool star']) :=
  ⟨below_setRow o.bel o.at_ _, o.at_, by simpa using o.siz, setRow_heap W B _ _ _ _ o.row⟩
/-- a field as a value -/
def fval (b : Nat) (star : Bool) : Value := .agg #[.int .u64 (b : Int), .bool star]

/-! known, bit -/
def knownB (k : Int) : Bool := decide (0 ≤ k) && decide (k ≤ 4)
theorem knownB_in {k : Nat} (h : k ≤ 4) : knownB (k : Int) = true := by simp [knownB]; omega
theorem knownB_out {k : Int} (h : ¬ (0 ≤ k ∧ k ≤ 4)) : knownB k = false := by simp [knownB]; omega
theorem known_any (k : Int) (w : World) : Calls Tryz.prog 110 #[.int .i64 k] w fun e w' => e = .returned (.bool (knownB k)) ∧ w = w' := by
  have HK : Hid (knownB k = (decide (0 ≤ k) && decide (k ≤ 4))) := Lib.hid rfl
  generalize knownB k = K at HK ⊢
  by_cases h0 : 0 ≤ k
  · have g0 : decide (0 ≤ k) = true := decide_eq_true h0
    by_cases h1 : k ≤ 4
    · have g1 : decide (k ≤ 4) = true := decide_eq_true h1
      go_enter Tryz.func110, Tryz.ntmps110
      go_wp2_with fail
      go_ret
      exact ⟨by rw [HK.out, g0, g1]; rfl, rfl⟩
    · have g1 : decide (k ≤ 4) = false := decide_eq_false h1
      go_enter Tryz.func110, Tryz.ntmps110
      go_wp2_with fail
      go_ret
      exact ⟨by rw [HK.out, g0, g1]; rfl, rfl⟩
  · have g0 : decide (0 ≤ k) = false := decide_eq_false h0
    go_enter Tryz.func110, Tryz.ntmps110
    go_wp2_with fail
    go_ret
    exact ⟨by rw [HK.out, g0]; rfl, rfl⟩

/-- the bit of a number that is not too great -/
theorem nat_u64 (x : Nat) (h : x < 18446744073709551616) : IntKind.u64.wrap (x : Int) = (x : Int) := by rw [IntKind.wrap_u64]; omega
theorem pow_u64 (n : Nat) (h : n ≤ 63) : IntKind.u64.wrap ((2 : Int) ^ n) = ((2 ^ n : Nat) : Int) := by
  rw [show (2 : Int) ^ n = ((2 ^ n : Nat) : Int) by norm_cast]
  exact nat_u64 _ (Nat.lt_of_le_of_lt (Nat.pow_le_pow_right (by decide) h) (by decide))
theorem bit_any (k : Nat) (n : Nat) (w : World) (hn : n ≤ 59) : Calls Tryz.prog 113 #[.int .i64 (k : Int), .int .i64 (n : Int)] w fun e w' => e = .returned (.int .u64 (Fld.bit k n : Nat)) ∧ w = w' := by
  have hsp : Fld.spot k n ≤ 59 := by unfold Fld.spot; split <;> omega
  have HB := Lib.hid (show Fld.bit k n = 2 ^ Fld.spot k n from rfl)
  generalize Fld.bit k n = bt at HB ⊢
  by_cases h4 : k = 4
  · have HS := Lib.hid (show Fld.spot k n = n % 7 from if_pos h4)
    have HP := Lib.hid (pow_u64 (n % 7) (by omega))
    have g4 : ((k : Int) == 4) = true := by simp; omega
    clear h4
    go_enter Tryz.func113, Tryz.ntmps113
    go_wp2_with fail
    go_ret
    exact ⟨by rw [HP.out, HB.out, HS.out]; rfl, rfl⟩
  · have HS := Lib.hid (show Fld.spot k n = n from if_neg h4)
    have HP := Lib.hid (pow_u64 n (by omega))
    have g4 : ((k : Int) == 4) = false := by simp; omega
    clear h4
    go_enter Tryz.func113, Tryz.ntmps113
    go_wp2_with fail
    go_ret
    exact ⟨by rw [HP.out, HB.out, HS.out]; rfl, rfl⟩
end Go.Proofs.YtpbnjibomdilhaaGreatDoor

namespace Go.Proofs.YtpbnjibomdilhaaGreatDoor
open Go.RowKit

namespace Fld
/-- whether a field allows a number -/
def has (b : Nat) (n : Int) : Bool := decide (0 ≤ n) && (decide (n < 64) && b.testBit n.toNat)
theorem has_in {b n : Nat} (h : n < 64) : has b (n : Int) = b.testBit n := by simp [has]; omega
theorem has_out {b : Nat} {n : Int} (h : ¬ (0 ≤ n ∧ n < 64)) : has b n = false := by simp [has]; omega
theorem has_nat {b : Nat} (hb : b < 2 ^ 64) (n : Nat) : has b (n : Int) = b.testBit n := by
  by_cases h : n < 64
  · exact has_in h
  · rw [has_out (by omega)]
    exact (Nat.testBit_lt_two_pow (Nat.lt_of_lt_of_le hb (Nat.pow_le_pow_right (by decide) (by omega)))).symm
/-- the first number from n on that a field allows -/
def first (b : Nat) (n : Int) : Option Nat := (List.range 64).find? (fun m => decide (n ≤ (m : Int)) && b.testBit m)
theorem first_some {b : Nat} {n : Int} {m : Nat} (h64 : m < 64) (hn : n ≤ m) (hm : b.testBit m = true) (hno : ∀ j : Nat, n ≤ (j : Int) → j < m → b.testBit j = false) : first b n = some m := by
  unfold first
  rw [List.find?_range_eq_some]
  refine ⟨by simp [hn, hm], by simpa using h64, fun j hj => ?_⟩
  by_cases h : n ≤ (j : Int)
  · rw [hno j h hj]; simp
  · simp [h]
theorem first_spec {b : Nat} {n : Int} {m : Nat} (h : first b n = some m) : m < 64 ∧ n ≤ m ∧ b.testBit m = true ∧ ∀ j : Nat, n ≤ (j : Int) → j < m → b.testBit j = false := by
  unfold first at h
  rw [List.find?_range_eq_some] at h
  obtain ⟨h1, h2, h3⟩ := h
  simp at h1 h2
  refine ⟨h2, h1.1, h1.2, fun j hn hj => ?_⟩
  have := h3 j hj
  simpa [hn] using this
theorem first_none {b : Nat} {n : Int} : first b n = none ↔ ∀ j : Nat, n ≤ (j : Int) → j < 64 → b.testBit j = false := by
  unfold first
  rw [List.find?_range_eq_none]
  constructor
  · intro h j hn hj
    have := h j hj
    simpa [hn] using this
  · intro h j hj
    by_cases hn : n ≤ (j : Int)
    · rw [h j hn hj]; simp
    · simp [hn]
end Fld

theorem shr_nat (b n : Nat) : (b : Int) / (2 : Int) ^ n = ((b / 2 ^ n : Nat) : Int) := by norm_cast
theorem and_one (x : Nat) (hx : x < 18446744073709551616) : bits .and .u64 (x : Int) 1 = ((x % 2 : Nat) : Int) := by
  rw [show (1 : Int) = ((1 : Nat) : Int) from rfl, u64_and_nat x 1 hx (by decide), nat_mask1]
theorem test_div (b n : Nat) : (b / 2 ^ n) % 2 = (b.testBit n).toNat := by rw [Nat.testBit_eq_decide_div_mod_eq]; rcases Nat.mod_two_eq_zero_or_one (b / 2 ^ n) with h | h <;> simp [h]

theorem has_val (b m : Nat) (hb : b < 2 ^ 64) : (bits .and .u64 ((b : Int) / (2 : Int) ^ m) 1 == 1) = b.testBit m := by
  have hx : b / 2 ^ m < 18446744073709551616 := Nat.lt_of_le_of_lt (Nat.div_le_self _ _) hb
  rw [shr_nat, and_one _ hx, test_div]
  cases b.testBit m <;> rfl

/-! how many noughts stand at a number's end -/
theorem low_bit (x i : Nat) (hx : x < 18446744073709551616) (hi : x.testBit i = true) (hj : ∀ j, j < i → x.testBit j = false) : x &&& (18446744073709551616 - x) = 2 ^ i := by
  have h0 : x ≠ 0 := fun h => by rw [h] at hi; simp at hi
  have h64 : i < 64 := by
    rcases Nat.lt_or_ge i 64 with h | h
    · exact h
    · rw [Nat.testBit_lt_two_pow (Nat.lt_of_lt_of_le hx (Nat.pow_le_pow_right (n := 2) (by decide) h))] at hi; simp at hi
  -- x is 2^i · (2 q + 1)
  obtain ⟨q, hq⟩ : ∃ q, q = x / 2 ^ i := ⟨_, rfl⟩
  have hmod : x % 2 ^ i = 0 := by
    refine Nat.eq_of_testBit_eq fun j => ?_
    rw [Nat.testBit_mod_two_pow, Nat.zero_testBit]
    by_cases h : j < i
    · rw [hj j h]; simp
    · simp [h]
  have hxq : x = 2 ^ i * q := by have := Nat.div_add_mod x (2 ^ i); rw [hmod, ← hq] at this; omega
  have hodd : q % 2 = 1 := by rw [hq, test_div, hi]; rfl
  obtain ⟨r, hr⟩ : ∃ r, q = 2 * r + 1 := ⟨q / 2, by omega⟩
  have hpos : 0 < 2 ^ i := Nat.two_pow_pos i
  -- x - 1 = 2^i · 2 r + (2^i - 1)
  have hx1 : x - 1 = 2 ^ i * (2 * r) + (2 ^ i - 1) := by
    rw [hxq, hr, Nat.mul_add]; omega
  have hsub : 18446744073709551616 - x = 2 ^ 64 - ((x - 1) + 1) := by
    have : (2 : Nat) ^ 64 = 18446744073709551616 := by decide
    omega
  refine Nat.eq_of_testBit_eq fun j => ?_
  rw [Nat.testBit_and, hsub, Nat.testBit_two_pow_sub_succ (by have : (2 : Nat) ^ 64 = 18446744073709551616 := by decide
                                                              omega), hx1, Nat.testBit_two_pow_mul_add _ (by omega), Nat.testBit_two_pow]
  by_cases h : j < i
  · rw [hj j h]
    have : i ≠ j := by omega
    simp [this]
  · rw [if_neg h]
    by_cases e : j = i
    · subst e
      rw [hi]
      simp [h64]
    · have e' : i ≠ j := fun h => e h.symm
      have hd : (2 * r).testBit (j - i) = x.testBit j := by
        rw [hxq, Nat.testBit_two_pow_mul, hr]
        obtain ⟨d, hd⟩ : ∃ d, j - i = d + 1 := ⟨j - i - 1, by omega⟩
        rw [hd, Nat.testBit_succ, Nat.testBit_succ]
        have : i ≤ j := by omega
        simp [this]
        congr 1
        omega
      rw [hd]
      cases x.testBit j <;> simp [e']
theorem tz_slot : ∀ i : Fin 64, (2 ^ i.val * 285870213051353865) % 18446744073709551616 / 288230376151711744 < 64 := by decide +kernel

set_option maxRecDepth 100000 in
theorem tz_any (x i : Nat) (hx : x < 18446744073709551616) (h64 : i < 64) (hi : x.testBit i = true) (hj : ∀ j, j < i → x.testBit j = false) (w : World) (hw : Tabs w) :
    Calls Tryz.prog 163 #[.int .u64 (x : Int)] w fun e w' => e = .returned (.int .i64 (i : Int)) ∧ w = w' := by
  have h0 : 0 < x := by
    rcases Nat.eq_zero_or_pos x with h | h
    · rw [h] at hi; simp at hi
    · exact h
  have hlow := low_bit x i hx hi hj
  have hc := hw.tz i h64
  have hr := tz_slot ⟨i, h64⟩
  simp only at hr
  obtain ⟨y, hy⟩ : ∃ y, y = 18446744073709551616 - x := ⟨_, rfl⟩
  have e1 : IntKind.u64.wrap (-(x : Int)) = (y : Int) := by rw [IntKind.wrap_u64]; omega
  have hyl : y < 18446744073709551616 := by omega
  rw [← hy] at hlow
  obtain ⟨p, hp⟩ : ∃ p, p = 2 ^ i := ⟨_, rfl⟩
  rw [← hp] at hlow hc hr
  have e2 : bits .and .u64 (x : Int) (y : Int) = (p : Int) := by rw [u64_and_nat x y hx hyl, hlow]
  obtain ⟨q, hq⟩ : ∃ q, q = (p * 285870213051353865) % 18446744073709551616 := ⟨_, rfl⟩
  have e3 : IntKind.u64.wrap ((p : Int) * 285870213051353865) = (q : Int) := by rw [IntKind.wrap_u64]; omega
  rw [← hq] at hc hr
  obtain ⟨r, hr'⟩ : ∃ r, r = q / 288230376151711744 := ⟨_, rfl⟩
  rw [← hr'] at hc hr
  have e4 : (q : Int) / 288230376151711744 = (r : Int) := by omega
  have g0 : ((x : Int) == 0) = false := by simp; omega
  clear hi hj hlow hp hq hy hr' hw
  go_enter Tryz.func163, Tryz.ntmps163
  go_wp2_with fail
  go_ret
  exact ⟨rfl, rfl⟩

/-- what First tells -/
def firstOf (b : Nat) (n : Int) : Value := .tuple #[.int .i64 (((Fld.first b n).getD 0 : Nat) : Int), .bool (Fld.first b n).isSome]
theorem firstOf_none {b : Nat} {n : Int} (h : Fld.first b n = none) : firstOf b n = .tuple #[.int .i64 0, .bool false] := by unfold firstOf; rw [h]; rfl
theorem firstOf_some {b : Nat} {n : Int} {m : Nat} (h : Fld.first b n = some m) : firstOf b n = .tuple #[.int .i64 (m : Int), .bool true] := by unfold firstOf; rw [h]; rfl

theorem div_bit (b m j : Nat) : (b / 2 ^ m).testBit j = b.testBit (m + j) := by rw [Nat.testBit_div_two_pow, Nat.add_comm]
theorem first_cut {b : Nat} (hb : b < 2 ^ 64) {n : Int} {m : Nat} (hm : max n 0 = (m : Int)) :
    (b / 2 ^ m = 0 ∧ Fld.first b n = none) ∨ ∃ i, i < 64 ∧ (b / 2 ^ m).testBit i = true ∧ (∀ j, j < i → (b / 2 ^ m).testBit j = false) ∧ m + i < 64 ∧ Fld.first b n = some (m + i) := by
  by_cases h : b / 2 ^ m = 0
  · refine .inl ⟨h, Fld.first_none.2 fun j hn hj => ?_⟩
    obtain ⟨d, rfl⟩ : ∃ d, j = m + d := ⟨j - m, by omega⟩
    rw [← div_bit, h, Nat.zero_testBit]
  · refine .inr ?_
    obtain ⟨j, hj⟩ := Nat.exists_testBit_of_ne_zero h
    have hlt : ∀ j, (b / 2 ^ m).testBit j = true → m + j < 64 := fun j hj => by
      rw [div_bit] at hj
      rcases Nat.lt_or_ge (m + j) 64 with h | h
      · exact h
      · rw [Nat.testBit_lt_two_pow (Nat.lt_of_lt_of_le hb (Nat.pow_le_pow_right (n := 2) (by decide) h))] at hj; simp at hj
    cases hf : Fld.first (b / 2 ^ m) 0 with
    | none =>
      have := Fld.first_none.1 hf j (by omega) (by have := hlt j hj; omega)
      rw [hj] at this; simp at this
    | some i =>
      obtain ⟨h1, _, h3, h4⟩ := Fld.first_spec hf
      refine ⟨i, h1, h3, fun j hj => h4 j (by omega) hj, hlt i h3, Fld.first_some (hlt i h3) (by omega) (by rw [← div_bit]; exact h3) fun j hn hj => ?_⟩
      obtain ⟨d, rfl⟩ : ∃ d, j = m + d := ⟨j - m, by omega⟩
      rw [← div_bit]
      exact h4 d (by omega) (by omega)
theorem first_far {b : Nat} {n : Int} (h : 64 ≤ n) : Fld.first b n = none := Fld.first_none.2 fun j hn hj => absurd hn (by omega)

end Go.Proofs.YtpbnjibomdilhaaGreatDoor
