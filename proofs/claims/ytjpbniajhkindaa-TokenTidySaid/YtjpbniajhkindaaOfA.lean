/- check.remainders and its closure, by their contracts. check.On, check.Of, by their contracts. check.On of any slice, check.Of, check.Masked, by their contracts. -/
import Derived.Test.YtjpbniajhkindaaCrc
import Derived.Test.YtjpbniajhkindaaProg
import Derived.WalkKit
import Derived.Lib.Hide
import Derived.OneCell
import Derived.Laws.BytesArg
import Derived.Deep.AppendLies
import Derived.Laws.Rows
import Derived.Test.YtjpbniajhkindaaTxA
namespace Go.Proofs.Ytjpbniajhkindaa
open Go.RowKit

theorem and1_odd (x : Nat) (hx : x < 4294967296) (h : x.testBit 0 = true) : bits .and .u32 (x : Int) 1 = 1 := by
  rw [show (1 : Int) = ((1 : Nat) : Int) by rfl, u32_and_nat x 1 hx (by decide), Nat.and_one_is_mod]
  rw [Nat.testBit_zero] at h
  simp at h
  rw [h]
theorem and1_even (x : Nat) (hx : x < 4294967296) (h : x.testBit 0 = false) : bits .and .u32 (x : Int) 1 = 0 := by
  rw [show (1 : Int) = ((1 : Nat) : Int) by rfl, u32_and_nat x 1 hx (by decide), Nat.and_one_is_mod]
  rw [Nat.testBit_zero] at h
  simp at h
  rw [h]
  rfl

theorem xor_odd (x : Nat) (hx : x < 4294967296) (h : x.testBit 0 = true) : bits .xor .u32 ((x : Int) / 2) 2197175160 = ((Crc.step x : Nat) : Int) := by
  have := u32_xor_nat (x / 2) 2197175160 (by omega) (by decide)
  rw [show ((x : Int) / 2) = ((x / 2 : Nat) : Int) by omega]
  refine this.trans ?_
  unfold Crc.step
  rw [if_pos h]
  rfl
theorem step_even (x : Nat) (h : x.testBit 0 = false) : (x : Int) / 2 = ((Crc.step x : Nat) : Int) := by
  unfold Crc.step
  rw [if_neg (by simp [h]), Nat.xor_zero]
  omega

set_option maxHeartbeats 400000 in
theorem div_any (c x : Nat) (w : World) (hx : x < 4294967296) (hn : w.heap[c]? = some (.cells #[.int .u32 (x : Int)] 97 (0, 0))) :
    Calls Try.prog 95 #[.pointer (some ⟨c, 0, none⟩)] w fun e w' => e = .returned (.tuple #[]) ∧ Below c w w' ∧ w'.heap[c]? = some (.cells #[.int .u32 (Crc.step x : Int)] 97 (0, 0)) ∧ w'.heap[c + 1]? = w.heap[c + 1]? := by
  have c1 := cell_of_one hn
  have c2 := free_of_one hn
  cases hb : x.testBit 0 with
  | true =>
    have ha := and1_odd x hx hb
    go_enter Try.func95, Try.ntmps95
    go_wp2
    go_end0
    rw [xor_odd x hx hb]
    exact ⟨rfl, ((Below.refl c w).setCell (p := ⟨c, 0, none⟩) (Nat.le_refl _) _).setCell (p := ⟨c, 0, none⟩) (Nat.le_refl _) _, one_setCell (one_setCell hn), (heap_setCell_other _ _ _ _ (by show _ ≠ c; omega)).trans (heap_setCell_other _ _ _ _ (by show _ ≠ c; omega))⟩
  | false =>
    have ha := and1_even x hx hb
    go_enter Try.func95, Try.ntmps95
    go_wp2
    go_end0
    rw [← step_even x hb]
    exact ⟨rfl, (Below.refl c w).setCell (p := ⟨c, 0, none⟩) (Nat.le_refl _) _, one_setCell hn, heap_setCell_other _ _ _ _ (by show _ ≠ c; omega)⟩

/-- the remainders of the first k half bytes, zeros behind -/
def tbl (k : Nat) : List Value := (List.range 16).map fun n => .int .u32 (if n < k then (Crc.steps 4 n : Int) else 0)

theorem tbl_size (k : Nat) : (tbl k).toArray.size = 16 := by simp [tbl]
theorem tbl_next (k : Nat) : (tbl k).toArray.setIfInBounds k (.int .u32 (Crc.steps 4 k : Int)) = (tbl (k + 1)).toArray := by
  rw [List.setIfInBounds_toArray]
  congr 1
  apply List.ext_getElem
  · simp [tbl]
  · intro i h1 h2
    have hi : i < 16 := by simpa [tbl] using h2
    rw [List.getElem_set]
    by_cases h : k = i
    · subst h
      simp [tbl]
    · rw [if_neg h]
      by_cases h3 : i < k
      · simp [tbl, h3, show i < k + 1 by omega]
      · simp [tbl, h3, show ¬ i < k + 1 by omega]
theorem tbl_one : (tbl 16).toArray.all (·.oneCell') = true := by kernel_rfl
theorem zeros_tbl : (#[.int .u32 0, .int .u32 0, .int .u32 0, .int .u32 0, .int .u32 0, .int .u32 0, .int .u32 0, .int .u32 0, .int .u32 0, .int .u32 0, .int .u32 0, .int .u32 0, .int .u32 0, .int .u32 0, .int .u32 0, .int .u32 0] : Array Value) = (tbl 0).toArray := by kernel_rfl

theorem below_setRow {B g : Nat} {w wr : World} (h : Below B w wr) (hg : B ≤ g) (cs : Array Value) : Below B w (wr.setRow g cs) :=
  ⟨h.os, h.tape, h.output, by rw [size_setRow]; exact h.size, fun k hk => (setRow_other wr g k cs (by omega)).trans (h.block k hk)⟩

/-- remainders' three blocks: what it hands back, what is left, the row -/
structure Rem (w wr : World) (x : Nat) (k : Nat) : Prop where
  bel : Below w.heap.size w wr
  r0 : wr.heap[w.heap.size]? = some (.cells (tbl 0).toArray 134 (0, 0))
  r1 : wr.heap[w.heap.size + 1]? = some (.cells #[.int .u32 (x : Int)] 97 (0, 0))
  r2 : wr.heap[w.heap.size + 1 + 1]? = some (.cells (tbl k).toArray 134 (0, 0))

theorem Rem.start (w : World) : Rem w (((w.alloc (.cells (tbl 0).toArray 134)).alloc (.cells #[.int .u32 0] 97)).alloc (.cells (tbl 0).toArray 134)) 0 0 := by
  refine ⟨(((Below.refl _ _).alloc (Nat.le_refl _) _).alloc (by simp) _).alloc (by simp; omega) _, ?_, ?_, ?_⟩
  · rw [Below.heap_alloc _ _ _ (by simp; omega)]; exact heap_alloc2_old w _ _
  · rw [Below.heap_alloc _ _ _ (by simp)]; exact heap_alloc2_new w _ _
  · have := heap_alloc_new ((w.alloc (.cells (tbl 0).toArray 134)).alloc (.cells #[.int .u32 0] 97)) (.cells (tbl 0).toArray 134)
    simpa using this

theorem Rem.left {w wr : World} {x k : Nat} (h : Rem w wr x k) (y : Nat) : Rem w (wr.setCell ⟨w.heap.size + 1, 0, none⟩ (.int .u32 (y : Int))) y k :=
  ⟨h.bel.setCell (p := ⟨w.heap.size + 1, 0, none⟩) (by show _ ≤ w.heap.size + 1; omega) _, (heap_setCell_other _ _ _ _ (by show _ ≠ w.heap.size + 1; omega)).trans h.r0, one_setCell h.r1,
   (heap_setCell_other _ _ _ _ (by show _ ≠ w.heap.size + 1; omega)).trans h.r2⟩

theorem Rem.row {w wr : World} {k : Nat} (h : Rem w wr (Crc.steps 4 k) k) : Rem w (wr.setCell ⟨w.heap.size + 1 + 1, k, none⟩ (.int .u32 (Crc.steps 4 k : Int))) (Crc.steps 4 k) (k + 1) :=
  ⟨h.bel.setCell (p := ⟨w.heap.size + 1 + 1, k, none⟩) (by show _ ≤ w.heap.size + 1 + 1; omega) _, (heap_setCell_other _ _ _ _ (by show _ ≠ w.heap.size + 1 + 1; omega)).trans h.r0,
   (heap_setCell_other _ _ _ _ (by show _ ≠ w.heap.size + 1 + 1; omega)).trans h.r1, by rw [heap_setCell_same _ _ _ _ _ _ h.r2, tbl_next k]⟩

theorem Rem.div {w wr w1 : World} {x k : Nat} (h : Rem w wr x k) (hb : Below (w.heap.size + 1) wr w1) (h1 : w1.heap[w.heap.size + 1]? = some (.cells #[.int .u32 (Crc.step x : Int)] 97 (0, 0)))
    (h2 : w1.heap[w.heap.size + 1 + 1]? = wr.heap[w.heap.size + 1 + 1]?) : Rem w w1 (Crc.step x) k :=
  ⟨h.bel.trans (hb.mono (by omega)), (hb.block _ (by omega)).trans h.r0, h1, h2.trans h.r2⟩

set_option maxRecDepth 100000 in
set_option maxHeartbeats 1000000 in
theorem remainders_any (w : World) :
    Calls Try.prog 89 #[] w fun e w' => e = .returned (.agg (tbl 16).toArray) ∧ Below w.heap.size w w' := by
  go_enter Try.func89, Try.ntmps89
  go_wp2
  rw [zeros_tbl]
  go_loopw [6] (fun n wr => ∃ k x : Nat, k ≤ 16 ∧ n = .int .i64 (k : Int) ∧ Rem w wr x k) (fun n _ => 16 - (intOf n).toNat)
  case atStart => exact ⟨0, 0, by omega, rfl, Rem.start w⟩
  case round =>
    obtain ⟨k, x, hk, rfl, hrem⟩ := hrel
    by_cases h16 : k = 16
    · subst h16
      have hr2 := hrem.r2
      have hr0 := hrem.r0
      go_wp2_with (first | (refine wpList_load_row rfl 134 _ rfl (w.heap.size + 1 + 1) rfl 134 (tbl 16).toArray (0, 0) _ hr2 Try.underlying134 rfl (by rw [tbl_size]; kernel_rfl) ?_) | (refine wpList_store_row rfl 134 _ _ rfl w.heap.size (tbl 16).toArray rfl rfl 134 (tbl 0).toArray hr0 (by rw [tbl_size]; kernel_rfl) rfl tbl_one ?_))
      refine bodyPost_ret (v := .agg (tbl 16).toArray) (results_cell_row rfl _ _ w.heap.size 134 (tbl 16).toArray (0, 0) _ rfl (setRow_heap _ _ _ _ _ _ hr0) Try.underlying134 rfl (by rw [tbl_size]; kernel_rfl)) rfl ⟨rfl, below_setRow hrem.bel (Nat.le_refl _) _⟩
    · have hlt : k < 16 := by omega
      have hd : decide ((k : Int) < 16) = true := by simp; omega
      have c1 := cell_of_one hrem.r1
      have c2 := free_of_one hrem.r1
      go_wp2
      go_loopw [11] (fun j wq => ∃ i : Nat, i ≤ 4 ∧ j = .int .i64 (i : Int) ∧ Rem w wq (Crc.steps i k) k) (fun j _ => 4 - (intOf j).toNat)
      case atStart => exact ⟨0, by omega, rfl, hrem.left k⟩
      case round =>
        obtain ⟨i, hi, rfl, hq⟩ := hrel
        by_cases h4 : i = 4
        · subst h4
          have c1 := cell_of_one hq.r1
          have c3 := cell_of_row _ (w.heap.size + 1 + 1) k _ _ _ hq.r2
          have c4 := frozen_of_row _ (w.heap.size + 1 + 1) k _ _ hq.r2
          rw [List.getElem?_toArray, List.getElem?_eq_getElem (by simpa [tbl] using hlt)] at c3
          go_wp2
          go_roundw
          case rel => exact ⟨k + 1, _, by omega, by go_num, hq.row⟩
          case measure => simp [intOf]; omega
        · have hi4 : i < 4 := by omega
          go_wp2_with fail
          refine (div_any _ (Crc.steps i k) _ (Crc.steps_lt (by omega) i) hq.r1).mono ?_
          rintro e w1 ⟨rfl, hb1, h1, h2⟩
          have hq1 := hq.div hb1 h1 h2
          clear hb1 h1 h2
          go_wp2_with fail
          go_roundw
          case rel => exact ⟨i + 1, by omega, by go_num, hq1⟩
          case measure => simp [intOf]; omega

end Go.Proofs.Ytjpbniajhkindaa

namespace Go.Proofs.Ytjpbniajhkindaa
open Go.RowKit

theorem not_u32 (c : Nat) (hc : c < 4294967296) : bits .xor .u32 IntKind.u32.max (c : Int) = ((Crc.M ^^^ c : Nat) : Int) := u32_xor_nat 4294967295 c (by decide) hc
theorem tbl_at (k : Nat) (hk : k < 16) : (tbl 16)[k]? = some (.int .u32 (Crc.steps 4 k : Int)) := by
  simp [tbl, hk]
theorem half_xor (y : Nat) (hy : y < 4294967296) : bits .xor .u32 ((y : Int) / 16) (Crc.steps 4 (y % 16) : Int) = ((Crc.steps 4 y : Nat) : Int) := by
  rw [show ((y : Int) / 16) = ((y / 16 : Nat) : Int) by omega, u32_xor_nat _ _ (by omega) (Crc.steps_lt (by omega) 4), ← Crc.steps_half]

set_option maxRecDepth 100000 in
set_option maxHeartbeats 1000000 in
theorem on_some (c : Nat) (hc : c < 4294967296) (x : Addr) (cap : Nat) (zs : List Int) (w : World) (hp : Reads w (some x) zs) :
    Calls Try.prog 73 #[.int .u32 (c : Int), .slice (some x) zs.length cap] w fun e w' => e = .returned (.int .u32 (Crc.on c zs : Int)) ∧ Below w.heap.size w w' := by
  have hn := not_u32 c hc
  have hl := hp.hl
  have HP := Lib.hid hp
  clear hp
  go_enter Try.func73, Try.ntmps73
  go_wp2_with fail
  refine (remainders_any _).mono ?_
  rintro e w1 ⟨rfl, hb1⟩
  have hnew := heap_alloc_new w1 (.cells (tbl 0).toArray 134)
  go_wp2_with (refine wpList_store_row rfl 134 _ _ rfl w1.heap.size (tbl 16).toArray rfl rfl 134 (tbl 0).toArray hnew (by rw [tbl_size]; kernel_rfl) rfl tbl_one ?_)
  rw [zeros_tbl]
  have hrow : ((w1.alloc (.cells (tbl 0).toArray 134)).setRow w1.heap.size (tbl 16).toArray).heap[w1.heap.size]? = some (.cells (tbl 16).toArray 134 (0, 0)) := setRow_heap _ _ _ _ _ _ hnew
  have hbel : Below w.heap.size w ((w1.alloc (.cells (tbl 0).toArray 134)).setRow w1.heap.size (tbl 16).toArray) := below_setRow (hb1.alloc hb1.size _) hb1.size _
  generalize (w1.alloc (.cells (tbl 0).toArray 134)).setRow w1.heap.size (tbl 16).toArray = W at *
  generalize w1.heap.size = g at *
  have HN := Lib.hid (HP.out.below hbel)
  clear hnew hb1 HP hn
  have HR := Lib.hid hrow
  clear hrow
  go_loop [6, 14] (fun v i => ∃ k : Nat, k ≤ zs.length ∧ i = .int .i64 (k : Int) ∧ v = .int .u32 (Crc.L (Crc.M ^^^ c) (Crc.raw zs) (8 * k) : Int)) (fun _ i => zs.length - (intOf i).toNat)
  case atStart => exact ⟨0, by omega, rfl, rfl⟩
  case round =>
    obtain ⟨k, hk, rfl, rfl⟩ := hrel
    have hL := Crc.L_lt (Crc.xor_lt Crc.M_lt hc) (Crc.raw zs) (8 * k)
    generalize hy : Crc.L (Crc.M ^^^ c) (Crc.raw zs) (8 * k) = y at hL
    have HY := Lib.hid hy
    clear hy
    by_cases hlt : k < zs.length
    · have hcell := HN.out.at hlt
      have hz := HN.out.range k
      obtain ⟨z, hzz⟩ : ∃ z : Nat, zs.getD k 0 = z := ⟨(zs.getD k 0).toNat, by omega⟩
      rw [hzz] at hcell hz
      have hx := u32_xor_nat y z hL (by omega)
      have HZ := Lib.hid hzz
      clear hzz
      have hd : decide ((k : Int) < (zs.length : Int)) = true := by simp; omega
      have hlY := Crc.xor_lt hL (show z < 4294967296 by omega)
      go_wp2
      generalize hY : y ^^^ z = Y at *
      have HX := Lib.hid hY
      clear hY hx
      go_loop [6, 22] (fun v j => ∃ i : Nat, i ≤ 2 ∧ j = .int .i64 (i : Int) ∧ v = .int .u32 (Crc.steps (4 * i) Y : Int)) (fun _ j => 2 - (intOf j).toNat)
      case atStart => exact ⟨0, by omega, rfl, rfl⟩
      case round =>
        obtain ⟨i, hi, rfl, rfl⟩ := hrel
        have hS := Crc.steps_lt hlY (4 * i)
        generalize hs : Crc.steps (4 * i) Y = q at hS
        have HS := Lib.hid hs
        clear hs
        by_cases h2 : i = 2
        · subst h2
          go_wp2
          go_round
          case rel => exact ⟨k + 1, by omega, by go_num, by rw [Crc.L_byte _ _ _ (HN.out.range k), HY.out, HZ.out, Int.toNat_natCast, HX.out, ← HS.out]⟩
          case measure => simp [intOf]; omega
        · have hi2 : i < 2 := by omega
          have ht := half_xor q hS
          have hm : q % 16 < 16 := Nat.mod_lt _ (by decide)
          have hc4 := cell_of_row _ g (q % 16) _ _ _ HR.out
          rw [List.getElem?_toArray, tbl_at _ hm] at hc4
          go_wp2
          go_round
          case rel => exact ⟨i + 1, by omega, by go_num, by rw [show 4 * (i + 1) = 4 * i + 4 by omega, Crc.steps_add, HS.out]⟩
          case measure => simp [intOf]; omega
    · have hv : bits .xor .u32 IntKind.u32.max (y : Int) = ((Crc.M ^^^ y : Nat) : Int) := not_u32 y hL
      go_wp2
      go_ret
      refine ⟨?_, hbel⟩
      rw [← HY.out, show k = zs.length by omega]
      rfl

end Go.Proofs.Ytjpbniajhkindaa

namespace Go.Proofs.Ytjpbniajhkindaa
open Go.RowKit

set_option maxRecDepth 100000 in
set_option maxHeartbeats 1000000 in
theorem on_none (c : Nat) (hc : c < 4294967296) (cap : Nat) (w : World) :
    Calls Try.prog 73 #[.int .u32 (c : Int), .slice none 0 cap] w fun e w' => e = .returned (.int .u32 (Crc.on c [] : Int)) ∧ Below w.heap.size w w' := by
  have hn := not_u32 c hc
  have hv : bits .xor .u32 IntKind.u32.max ((Crc.M ^^^ c : Nat) : Int) = ((Crc.M ^^^ (Crc.M ^^^ c) : Nat) : Int) := not_u32 _ (Crc.xor_lt Crc.M_lt hc)
  go_enter Try.func73, Try.ntmps73
  go_wp2_with fail
  refine (remainders_any _).mono ?_
  rintro e w1 ⟨rfl, hb1⟩
  have hnew := heap_alloc_new w1 (.cells (tbl 0).toArray 134)
  go_wp2_with (refine wpList_store_row rfl 134 _ _ rfl w1.heap.size (tbl 16).toArray rfl rfl 134 (tbl 0).toArray hnew (by rw [tbl_size]; kernel_rfl) rfl tbl_one ?_)
  rw [zeros_tbl]
  have hbel : Below w.heap.size w ((w1.alloc (.cells (tbl 0).toArray 134)).setRow w1.heap.size (tbl 16).toArray) := below_setRow (hb1.alloc hb1.size _) hb1.size _
  generalize (w1.alloc (.cells (tbl 0).toArray 134)).setRow w1.heap.size (tbl 16).toArray = W at *
  generalize w1.heap.size = g at *
  clear hnew hb1 hn
  go_loop [6, 14] (fun v i => i = .int .i64 0 ∧ v = .int .u32 ((Crc.M ^^^ c : Nat) : Int)) (fun _ i => (intOf i).toNat)
  case atStart => exact ⟨rfl, rfl⟩
  case round =>
    obtain ⟨rfl, rfl⟩ := hrel
    go_wp2
    go_ret
    exact ⟨rfl, hbel⟩

theorem on_any (c : Nat) (hc : c < 4294967296) (a : Option Addr) (len cap : Nat) (zs : List Int) (w : World) (hz : len = zs.length) (hp : Reads w a zs) :
    Calls Try.prog 73 #[.int .u32 (c : Int), .slice a len cap] w fun e w' => e = .returned (.int .u32 (Crc.on c zs : Int)) ∧ Below w.heap.size w w' := by
  subst hz
  cases a with
  | some x => exact on_some c hc x cap zs w hp
  | none =>
    cases zs with
    | nil => exact on_none c hc cap w
    | cons z zs =>
      obtain ⟨x, hx, _⟩ := hp.cell 0 (by simp)
      cases hx

set_option maxHeartbeats 400000 in
theorem of_any (a : Option Addr) (len cap : Nat) (zs : List Int) (w : World) (hz : len = zs.length) (hp : Reads w a zs) :
    Calls Try.prog 60 #[.slice a len cap] w fun e w' => e = .returned (.int .u32 (Crc.crc zs : Int)) ∧ Below w.heap.size w w' := by
  have H := Lib.hid (on_any 0 (by decide) a len cap zs w hz hp)
  clear hz hp
  go_enter Try.func60, Try.ntmps60
  go_wp2_with fail
  refine H.out.mono ?_
  rintro e w1 ⟨rfl, hb1⟩
  clear H
  go_wp2_with fail
  go_ret
  exact ⟨by rw [Crc.on_zero]; rfl, hb1⟩

theorem or_turn (x : Nat) (hx : x < 4294967296) : bits .or .u32 ((x : Int) * 131072 % 4294967296) ((x : Int) / 32768) = ((x / 32768 + x % 32768 * 131072 : Nat) : Int) := by
  have e1 : ((x : Int) * 131072 % 4294967296) = ((x % 32768 * 131072 : Nat) : Int) := by omega
  have e2 : ((x : Int) / 32768) = ((x / 32768 : Nat) : Int) := by omega
  rw [e1, e2, u32_or_nat _ _ (by omega) (by omega)]
  congr 1
  have h := Nat.two_pow_add_eq_or_of_lt (i := 17) (b := x / 32768) (by omega) (x % 32768)
  rw [show x % 32768 * 131072 = 2 ^ 17 * (x % 32768) by omega, ← h]
  omega

set_option maxHeartbeats 400000 in
theorem turn_any (c : Nat) (hc : c < 4294967296) (w : World) :
    Calls Try.prog 59 #[.int .u32 (c : Int), .int .i64 (-15)] w fun e w' => e = .returned (.int .u32 ((c / 32768 + c % 32768 * 131072 : Nat) : Int)) ∧ w = w' := by
  have ho := or_turn c hc
  have ha : bits .and .u64 (IntKind.u64.wrap (-15)) 31 = 17 := by decide
  go_enter Try.func59, Try.ntmps59
  go_wp2
  go_ret
  exact ⟨rfl, rfl⟩

set_option maxHeartbeats 400000 in
theorem masked_any (a : Option Addr) (len cap : Nat) (zs : List Int) (w : World) (hz : len = zs.length) (hp : Reads w a zs) :
    Calls Try.prog 50 #[.slice a len cap] w fun e w' => e = .returned (.int .u32 (Crc.mask (Crc.crc zs) : Int)) ∧ Below w.heap.size w w' := by
  have H := Lib.hid (of_any a len cap zs w hz hp)
  clear hz hp
  have hlt := Crc.crc_lt zs
  generalize Crc.crc zs = c at *
  go_enter Try.func50, Try.ntmps50
  go_wp2_with fail
  refine H.out.mono ?_
  rintro e w1 ⟨rfl, hb1⟩
  clear H
  go_wp2_with fail
  refine (turn_any c hlt _).mono ?_
  rintro e w2 ⟨rfl, rfl⟩
  have h2 := Crc.turn_lt hlt
  have hm : Crc.mask c = (c / 32768 + c % 32768 * 131072 + 2726488792) % 4294967296 := rfl
  generalize c / 32768 + c % 32768 * 131072 = t at *
  have HM := Lib.hid hm
  clear hm
  go_wp2_with fail
  go_ret
  exact ⟨by rw [HM.out, Int.natCast_emod, Int.natCast_add]; rfl, hb1⟩

end Go.Proofs.Ytjpbniajhkindaa
