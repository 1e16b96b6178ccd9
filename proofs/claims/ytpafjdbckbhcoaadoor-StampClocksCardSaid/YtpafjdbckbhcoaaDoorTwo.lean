/- Numbers as digits: stamp.two, and the reference's digits, by their contracts. -/
import Derived.Test.YtpafjdbckbhcoaaDoorJoinR
import Derived.Test.YtpafjdbckbhcoaaDoorShelf
import Derived.Lib.LaidTab
import Derived.Deep.QuietTactic
import Derived.Lib.AppendIntMem
namespace Go.Proofs.YtpafjdbckbhcoaaDoor
open Go.RowKit

/-- the powers' table, as the program laid it -/
def Pow (w : World) : Prop := Lib.TabIs Tryd.prog w "internal/strconv.uint64pow10" .u64 Lib.pow10Tab
theorem gPow : Tryd.prog.globalNamed "internal/strconv.uint64pow10" = some 1 := by kernel_rfl
theorem Pow.size {w : World} (h : Pow w) : 1 < w.heap.size := by
  unfold Pow Lib.TabIs World.var? at h
  rw [gPow] at h
  rcases Nat.lt_or_ge 1 w.heap.size with h1 | h1
  · exact h1
  · simp [Array.getElem?_eq_none h1] at h
theorem Pow.below {n : Nat} {w w' : World} (h : Pow w) (hb : Below n w w') (hn : 1 < n) : Pow w' := by
  unfold Pow Lib.TabIs World.var? at *
  rw [gPow] at *
  simp only [Option.bind_some] at *
  rw [hb.block 1 hn]
  exact h
/-- the powers' table lies in whatever comes of this world -/
def PowOn (w : World) : Prop := ∀ W, Below w.heap.size w W → Pow W
theorem PowOn.on {w W : World} (h : PowOn w) (hb : Below w.heap.size w W) : Pow W := h W hb
theorem PowOn.of {w : World} (h : Pow w) : PowOn w := fun _ hb => h.below hb h.size
/-- a text of these bytes -/
def str (l : List UInt8) : ByteArray := ⟨l.toArray⟩
theorem str_append (a b : List UInt8) : str a ++ str b = str (a ++ b) := by
  have h : (str a ++ str b).data = (str a).data ++ (str b).data := ByteArray.data_append
  generalize str a ++ str b = x at h
  cases x
  simp only [] at h
  subst h
  unfold str
  simp
theorem str_size (l : List UInt8) : (str l).size = l.length := by show l.toArray.size = _; simp
theorem str_toList (l : List UInt8) : (str l).toList = l := ByteArray.toList_mk l
def one (n : Nat) : List UInt8 := [UInt8.ofNat (48 + n)]
theorem dig_two (x : Int) (h0 : 0 ≤ x) (h1 : x < 100) : Stm.dig 2 x.toNat = one (x / 10).toNat ++ one (x % 10).toNat := by
  obtain ⟨j, rfl⟩ : ∃ j : Nat, x = j := ⟨x.toNat, by omega⟩
  have e1 : ((j : Int) / 10).toNat = j / 10 := by omega
  have e2 : ((j : Int) % 10).toNat = j % 10 := by omega
  have e3 : j / 10 % 10 = j / 10 := by omega
  rw [e1, e2]
  simp only [Stm.dig, Int.toNat_natCast, e3, List.nil_append, one]
theorem dig_next (k : Nat) (x : Int) (h0 : 0 ≤ x) : Stm.dig (k + 1) x.toNat = Stm.dig k (x / 10).toNat ++ one (x % 10).toNat := by
  obtain ⟨j, rfl⟩ : ∃ j : Nat, x = j := ⟨x.toNat, by omega⟩
  have e1 : ((j : Int) / 10).toNat = j / 10 := by omega
  have e2 : ((j : Int) % 10).toNat = j % 10 := by omega
  rw [e1, e2]
  simp only [Stm.dig, Int.toNat_natCast, one]

theorem itoa_small (x : Int) (h0 : 0 ≤ x) (h1 : x < 10) (w : World) :
    Calls Tryd.prog 24 #[.int .i64 x] w fun e w' => e = .returned (.string (str (one x.toNat))) ∧ w' = w := by
  obtain ⟨j, rfl⟩ : ∃ j : Nat, x = j := ⟨x.toNat, by omega⟩
  have := Tryd.strconv_Itoa_small j (by omega) w
  rw [Lib.decDigits_one (by omega)] at this
  exact this

theorem itoa_year (x : Int) (h0 : 1000 ≤ x) (h1 : x < 10000) (w : World) (hp : Pow w) :
    Calls Tryd.prog 24 #[.int .i64 x] w fun e w' => e = .returned (.string (str (Stm.dig 4 x.toNat))) ∧ Below w.heap.size w w' := by
  obtain ⟨j, rfl⟩ : ∃ j : Nat, x = j := ⟨x.toNat, by omega⟩
  have := Tryd.strconv_Itoa j (by omega) (by omega) w hp
  rw [Lib.itoa_nonneg, Stm.dig_dec 3 j (by omega) (by omega)] at this
  refine this.mono fun e w' h => ⟨h.1, ?_⟩
  obtain ⟨-, k, os, rfl⟩ := h
  exact Lib.below_grow _ w (Nat.le_refl _) k os

set_option maxRecDepth 100000 in
theorem two_any (x : Int) (h0 : 0 ≤ x) (h1 : x < 100) (w : World) :
    Calls Tryd.prog 25 #[.int .i64 x] w fun e w' => e = .returned (.string (str (Stm.dig 2 x.toNat))) ∧ w' = w := by
  have HD := Lib.hid (dig_two x h0 h1)
  have HA := Lib.hid (fun w => itoa_small (x / 10) (by omega) (by omega) w)
  have HB := Lib.hid (fun w => itoa_small (x % 10) (by omega) (by omega) w)
  go_enter Tryd.func25, Tryd.ntmps25
  go_wp2_with fail
  with_reducible refine (HA.out _).mono ?_
  rintro e w1 ⟨rfl, rfl⟩
  go_wp2_with fail
  with_reducible refine (HB.out _).mono ?_
  rintro e w1 ⟨rfl, rfl⟩
  go_wp2_with fail
  go_ret
  exact ⟨by rw [HD.out, ← str_append]; rfl, rfl⟩

theorem digit_piece : ∀ j : Nat, j < 10 → (⟨#[48, 49, 50, 51, 52, 53, 54, 55, 56, 57]⟩ : ByteArray).extract j (j + 1) = str (one j) := by
  intro j hj
  have : j = 0 ∨ j = 1 ∨ j = 2 ∨ j = 3 ∨ j = 4 ∨ j = 5 ∨ j = 6 ∨ j = 7 ∨ j = 8 ∨ j = 9 := by omega
  rcases this with rfl | rfl | rfl | rfl | rfl | rfl | rfl | rfl | rfl | rfl <;> decide +kernel

set_option maxRecDepth 100000 in
theorem digits_none (x : Int) (w : World) :
    Calls Tryd.prog 26 #[.int .i64 x, .int .i64 0] w fun e w' => e = .returned (.string (str (Stm.dig 0 x.toNat))) ∧ Below w.heap.size w w' := by
  have HE : Hid (str (Stm.dig 0 x.toNat) = ⟨#[]⟩) := Eq.refl _
  go_enter Tryd.func26, Tryd.ntmps26
  go_wp2_with fail
  go_ret
  exact ⟨by rw [HE.out]; rfl, Below.refl _ _⟩

set_option maxRecDepth 100000 in
set_option maxHeartbeats 1000000 in
theorem digits_more (k : Nat) (M x : Int) (w : World) (hM : M = (k : Int) + 1) (hk : k < 4) (h0 : 0 ≤ x) (h1 : x < 10000)
    (ih : ∀ w, Calls Tryd.prog 26 #[.int .i64 (x / 10), .int .i64 (k : Int)] w fun e w' => e = .returned (.string (str (Stm.dig k (x / 10).toNat))) ∧ Below w.heap.size w w') :
    Calls Tryd.prog 26 #[.int .i64 x, .int .i64 M] w fun e w' => e = .returned (.string (str (Stm.dig (k + 1) x.toNat))) ∧ Below w.heap.size w w' := by
    have HI := Lib.hid ih
    have HD := Lib.hid (dig_next k x h0)
    obtain ⟨j, hj⟩ : ∃ j : Nat, x % 10 = (j : Int) := ⟨(x % 10).toNat, by omega⟩
    have hj10 : j < 10 := by omega
    have hne : ¬ M = 0 := by omega
    have q1 : IntKind.i64.wrap (x.tdiv 10) = x / 10 := by rw [Int.tdiv_eq_ediv_of_nonneg h0, IntKind.wrap_i64]; omega
    have q2 : x.tmod 10 = (j : Int) := by rw [Int.tmod_eq_emod_of_nonneg h0, hj]
    have q3 : IntKind.i64.wrap ((j : Int) + 1) = (j : Int) + 1 := by rw [IntKind.wrap_i64]; omega
    have q4 : IntKind.i64.wrap (M - 1) = (k : Int) := by rw [IntKind.wrap_i64]; omega
    have hsl : ∀ w, (Instr.slice 9 (.string ⟨#[48, 49, 50, 51, 52, 53, 54, 55, 56, 57]⟩) (some (.int .i64 (j : Int))) (some (.int .i64 ((j : Int) + 1))) none).run Tryd.prog w = .ok (.string (str (one j))) w := fun w => by
      rw [run_slice_string w 9 _ .i64 .i64 _ _ Tryd.underlying9 (by omega) (by omega) (by show (j : Int) + 1 ≤ 10; omega), show ((j : Int)).toNat = j by omega, show ((j : Int) + 1).toNat = j + 1 by omega, digit_piece j hj10]
    rw [hj, Int.toNat_natCast] at HD
    have hz : ¬ 9223372036854775807 < (str (Stm.dig k (x / 10).toNat)).size + (str (one j)).size := by rw [str_size, str_size, Stm.dig_length]; show ¬ 9223372036854775807 < k + 1; omega
    clear ih hM hk h0 h1 hj hj10
    generalize x / 10 = x1 at *
    go_enter Tryd.func26, Tryd.ntmps26
    go_wp2_with fail
    refine wp_region_held_drew (S := fun _ => True) (by kernel_rfl) trivial (fun hHeld => ?_)
    refine wpAnyH_take (i := 0) (oi := ?_) (v := ?_) ?_ (by kernel_rfl) (by kernel_rfl) (by kernel_rfl) ?_ (Or.inl ⟨?_, ?_⟩) (by assumption) ?_
    rotate_left 2
    focus (simp only [List.getElem?_toArray, List.getElem?_cons_zero]; rfl)
    focus exact fun _ _ _ h => h
    focus rfl
    focus (intro W hS; (try dsimp only at hS); go_simp; (try with_reducible rfl))
    try simp only [Act.put]
    try simp only [List.setIfInBounds_toArray]
    try simp only [List.set_cons_succ]
    try simp only [List.set_cons_zero]
    refine wpAnyH_take (i := 1) (oi := ?_) (v := ?_) ?_ (by kernel_rfl) (by kernel_rfl) (by kernel_rfl) ?_ (Or.inl ⟨?_, ?_⟩) (by assumption) ?_
    rotate_left 2
    focus (simp only [List.getElem?_toArray, List.getElem?_cons_succ, List.getElem?_cons_zero]; rfl)
    focus exact fun _ _ _ h => h
    focus rfl
    focus (intro W hS; (try dsimp only at hS); go_simp; (try with_reducible rfl))
    try simp only [Act.put]
    try simp only [List.setIfInBounds_toArray]
    try simp only [List.set_cons_succ]
    try simp only [List.set_cons_zero]
    refine wpAnyH_take (i := 2) (oi := ?_) (v := ?_) ?_ (by kernel_rfl) (by kernel_rfl) (by kernel_rfl) ?_ (Or.inl ⟨?_, ?_⟩) (by assumption) ?_
    rotate_left 2
    focus (simp only [List.getElem?_toArray, List.getElem?_cons_succ, List.getElem?_cons_zero]; rfl)
    focus exact fun _ _ _ h => h
    focus rfl
    focus (intro W hS; (try dsimp only at hS); go_simp; (try with_reducible rfl))
    try simp only [Act.put]
    try simp only [List.setIfInBounds_toArray]
    try simp only [List.set_cons_succ]
    try simp only [List.set_cons_zero]
    refine wpAnyH_take (i := 3) (oi := ?_) (v := ?_) ?_ (by kernel_rfl) (by kernel_rfl) (by kernel_rfl) ?_ (Or.inl ⟨?_, ?_⟩) (by assumption) ?_
    rotate_left 2
    focus (simp only [List.getElem?_toArray, List.getElem?_cons_succ, List.getElem?_cons_zero]; rfl)
    focus exact fun _ _ _ h => h
    focus rfl
    focus (intro W hS; (try dsimp only at hS); go_simp; (try with_reducible rfl))
    try simp only [Act.put]
    try simp only [List.setIfInBounds_toArray]
    try simp only [List.set_cons_succ]
    try simp only [List.set_cons_zero]
    refine wpAnyH_take (i := 5) (oi := ?_) (v := ?_) ?_ (by kernel_rfl) (by kernel_rfl) (by kernel_rfl) ?_ (Or.inl ⟨?_, ?_⟩) (by assumption) ?_
    rotate_left 2
    focus (simp only [List.getElem?_toArray, List.getElem?_cons_succ, List.getElem?_cons_zero]; rfl)
    focus exact fun _ _ _ h => h
    focus rfl
    focus (intro W hS; (try dsimp only at hS); go_simp; (try with_reducible rfl))
    try simp only [Act.put]
    try simp only [List.setIfInBounds_toArray]
    try simp only [List.set_cons_succ]
    try simp only [List.set_cons_zero]
    refine wpAnyH_take (i := 6) (oi := ?_) (v := ?_) ?_ (by kernel_rfl) (by kernel_rfl) (by kernel_rfl) ?_ (Or.inl ⟨?_, ?_⟩) (by assumption) ?_
    rotate_left 2
    focus (simp only [List.getElem?_toArray, List.getElem?_cons_succ, List.getElem?_cons_zero]; rfl)
    focus exact fun _ _ _ h => h
    focus rfl
    focus (intro W hS; (try dsimp only at hS); go_simp; (try with_reducible rfl))
    try simp only [Act.put]
    try simp only [List.setIfInBounds_toArray]
    try simp only [List.set_cons_succ]
    try simp only [List.set_cons_zero]
    refine wpAnyH_take (i := 7) (oi := ?_) (v := ?_) ?_ (by kernel_rfl) (by kernel_rfl) (by kernel_rfl) ?_ (Or.inl ⟨?_, ?_⟩) (by assumption) ?_
    rotate_left 2
    focus (simp only [List.getElem?_toArray, List.getElem?_cons_succ, List.getElem?_cons_zero]; rfl)
    focus exact fun _ _ _ h => h
    focus rfl
    focus (intro W hS; (try dsimp only at hS); go_simp; (try with_reducible rfl))
    try simp only [Act.put]
    try simp only [List.setIfInBounds_toArray]
    try simp only [List.set_cons_succ]
    try simp only [List.set_cons_zero]
    refine wpAnyH_take (i := 8) (oi := ?_) (v := ?_) ?_ (by kernel_rfl) (by kernel_rfl) (by kernel_rfl) ?_ (Or.inl ⟨?_, ?_⟩) (by assumption) ?_
    rotate_left 2
    focus (simp only [List.getElem?_toArray, List.getElem?_cons_succ, List.getElem?_cons_zero]; rfl)
    focus exact fun _ _ _ h => h
    focus rfl
    focus (intro W hS; (try dsimp only at hS); go_simp; (try with_reducible rfl))
    try simp only [Act.put]
    try simp only [List.setIfInBounds_toArray]
    try simp only [List.set_cons_succ]
    try simp only [List.set_cons_zero]
    refine wpAnyH_take (i := 9) (oi := ?_) (v := ?_) ?_ (by kernel_rfl) (by kernel_rfl) (by kernel_rfl) ?_ (Or.inl ⟨?_, ?_⟩) (by assumption) ?_
    rotate_left 2
    focus (simp only [List.getElem?_toArray, List.getElem?_cons_succ, List.getElem?_cons_zero]; rfl)
    focus exact fun _ _ _ h => h
    focus rfl
    focus (intro W hS; (try dsimp only at hS); go_simp; (try with_reducible rfl))
    try simp only [Act.put]
    try simp only [List.setIfInBounds_toArray]
    try simp only [List.set_cons_succ]
    try simp only [List.set_cons_zero]
    refine wpAnyH_take (i := 10) (oi := ?_) (v := ?_) ?_ (by kernel_rfl) (by kernel_rfl) (by kernel_rfl) ?_ (Or.inl ⟨?_, ?_⟩) (by assumption) ?_
    rotate_left 2
    focus (simp only [List.getElem?_toArray, List.getElem?_cons_succ, List.getElem?_cons_zero]; rfl)
    focus exact fun _ _ _ h => h
    focus rfl
    focus (intro W hS; (try dsimp only at hS); go_simp; (try with_reducible rfl))
    try simp only [Act.put]
    try simp only [List.setIfInBounds_toArray]
    try simp only [List.set_cons_succ]
    try simp only [List.set_cons_zero]
    refine wpAnyH_ready (rs := [4]) (by kernel_rfl) (by simp) ?_
    refine AllReadyH.cons (o := ?_) ?_ (fun K hK => ?_) AllReadyH.nil
    rotate_left
    focus (simp only [List.getElem?_toArray, List.getElem?_cons_succ, List.getElem?_cons_zero]; rfl)
    rw [if_pos (by rfl)]
    go_simp
    with_reducible refine (HI.out _).mono ?_
    rintro e w3 ⟨rfl, hb3⟩
    go_wp2_with fail
    refine hK.out _ _ trivial (fun hHeld => ?_)
    clear hK K
    try simp only [Act.put]
    try simp only [List.setIfInBounds_toArray]
    try simp only [List.set_cons_succ]
    try simp only [List.set_cons_zero]
    refine wpAnyH_take (i := 11) (oi := ?_) (v := ?_) ?_ (by kernel_rfl) (by kernel_rfl) (by kernel_rfl) ?_ (Or.inl ⟨?_, ?_⟩) (by assumption) ?_
    rotate_left 2
    focus (simp only [List.getElem?_toArray, List.getElem?_cons_succ, List.getElem?_cons_zero]; rfl)
    focus exact fun _ _ _ h => h
    focus rfl
    focus (intro W hS; (try dsimp only at hS); go_simp; (try with_reducible rfl))
    try simp only [Act.put]
    try simp only [List.setIfInBounds_toArray]
    try simp only [List.set_cons_succ]
    try simp only [List.set_cons_zero]
    refine wpAnyH_take (i := 12) (oi := ?_) (v := ?_) ?_ (by kernel_rfl) (by kernel_rfl) (by kernel_rfl) ?_ (Or.inl ⟨?_, ?_⟩) (by assumption) ?_
    rotate_left 2
    focus (simp only [List.getElem?_toArray, List.getElem?_cons_succ, List.getElem?_cons_zero]; rfl)
    focus exact fun _ _ _ h => h
    focus rfl
    focus (intro W hS; (try dsimp only at hS); go_simp; (try with_reducible rfl))
    try simp only [Act.put]
    try simp only [List.setIfInBounds_toArray]
    try simp only [List.set_cons_succ]
    try simp only [List.set_cons_zero]
    refine wpAnyH_done (by kernel_rfl) ?_ _
    go_wp2
    go_ret
    exact ⟨by rw [HD.out, ← str_append]; rfl, (Below.refl _ _).drew.trans hb3⟩

theorem digits_any : ∀ (k : Nat) (x : Int) (w : World), k ≤ 4 → 0 ≤ x → x < 10000 →
    Calls Tryd.prog 26 #[.int .i64 x, .int .i64 (k : Int)] w fun e w' => e = .returned (.string (str (Stm.dig k x.toNat))) ∧ Below w.heap.size w w'
  | 0, x, w, _, _, _ => digits_none x w
  | k + 1, x, w, hk, h0, h1 => digits_more k _ x w rfl (by omega) h0 h1 (fun w => digits_any k (x / 10) w (by omega) (by omega) (by omega))
end Go.Proofs.YtpafjdbckbhcoaaDoor
