/- check.On of any slice, check.Of, check.Masked, by their contracts. -/
import Derived.Test.YtlebeegcdadgiaaOn
namespace Go.Proofs.Ytlebeegcdadgiaa
open Go.RowKit

set_option maxRecDepth 100000 in
set_option maxHeartbeats 1000000 in
theorem on_none (c : Nat) (hc : c < 4294967296) (cap : Nat) (w : World) :
    Calls Try.prog 34 #[.int .u32 (c : Int), .slice none 0 cap] w fun e w' => e = .returned (.int .u32 (Crc.on c [] : Int)) ∧ Below w.heap.size w w' := by
  have hn := not_u32 c hc
  have hv : bits .xor .u32 IntKind.u32.max ((Crc.M ^^^ c : Nat) : Int) = ((Crc.M ^^^ (Crc.M ^^^ c) : Nat) : Int) := not_u32 _ (Crc.xor_lt Crc.M_lt hc)
  go_enter Try.func34, Try.ntmps34
  go_wp2_with fail
  refine (remainders_any _).mono ?_
  rintro e w1 ⟨rfl, hb1⟩
  have hnew := heap_alloc_new w1 (.cells (tbl 0).toArray 60)
  go_wp2_with (refine wpList_store_row rfl 60 _ _ rfl w1.heap.size (tbl 16).toArray rfl rfl 60 (tbl 0).toArray hnew (by rw [tbl_size]; kernel_rfl) rfl tbl_one ?_)
  rw [zeros_tbl]
  have hbel : Below w.heap.size w ((w1.alloc (.cells (tbl 0).toArray 60)).setRow w1.heap.size (tbl 16).toArray) := below_setRow (hb1.alloc hb1.size _) hb1.size _
  generalize (w1.alloc (.cells (tbl 0).toArray 60)).setRow w1.heap.size (tbl 16).toArray = W at *
  generalize w1.heap.size = g at *
  clear hnew hb1 hn
  go_loop [6, 14] (fun v i => i = .int .i64 0 ∧ v = .int .u32 ((Crc.M ^^^ c : Nat) : Int)) (fun _ i => (intOf i).toNat)
  case atStart => exact ⟨rfl, rfl⟩
  case round =>
    obtain ⟨rfl, rfl⟩ := hrel
    go_wp2
    go_ret
    exact ⟨rfl, hbel⟩

theorem on_any (c : Nat) (hc : c < 4294967296) (a : Option Addr) (len cap : Nat) (zs : List Int) (w : World) (hz : len = zs.length) (hp : Reads w a zs) :
    Calls Try.prog 34 #[.int .u32 (c : Int), .slice a len cap] w fun e w' => e = .returned (.int .u32 (Crc.on c zs : Int)) ∧ Below w.heap.size w w' := by
  subst hz
  cases a with
  | some x => exact on_some c hc x cap zs w hp
  | none =>
    cases zs with
    | nil => exact on_none c hc cap w
    | cons z zs =>
      obtain ⟨x, hx, _⟩ := hp.cell 0 (by simp)
      cases hx

set_option maxHeartbeats 400000 in
theorem of_any (a : Option Addr) (len cap : Nat) (zs : List Int) (w : World) (hz : len = zs.length) (hp : Reads w a zs) :
    Calls Try.prog 28 #[.slice a len cap] w fun e w' => e = .returned (.int .u32 (Crc.crc zs : Int)) ∧ Below w.heap.size w w' := by
  have H := Lib.hid (on_any 0 (by decide) a len cap zs w hz hp)
  clear hz hp
  go_enter Try.func28, Try.ntmps28
  go_wp2_with fail
  refine H.out.mono ?_
  rintro e w1 ⟨rfl, hb1⟩
  clear H
  go_wp2_with fail
  go_ret
  exact ⟨by rw [Crc.on_zero]; rfl, hb1⟩

theorem or_turn (x : Nat) (hx : x < 4294967296) : bits .or .u32 ((x : Int) * 131072 % 4294967296) ((x : Int) / 32768) = ((x / 32768 + x % 32768 * 131072 : Nat) : Int) := by
  have e1 : ((x : Int) * 131072 % 4294967296) = ((x % 32768 * 131072 : Nat) : Int) := by omega
  have e2 : ((x : Int) / 32768) = ((x / 32768 : Nat) : Int) := by omega
  rw [e1, e2, u32_or_nat _ _ (by omega) (by omega)]
  congr 1
  have h := Nat.two_pow_add_eq_or_of_lt (i := 17) (b := x / 32768) (by omega) (x % 32768)
  rw [show x % 32768 * 131072 = 2 ^ 17 * (x % 32768) by omega, ← h]
  omega

set_option maxHeartbeats 400000 in
theorem turn_any (c : Nat) (hc : c < 4294967296) (w : World) :
    Calls Try.prog 27 #[.int .u32 (c : Int), .int .i64 (-15)] w fun e w' => e = .returned (.int .u32 ((c / 32768 + c % 32768 * 131072 : Nat) : Int)) ∧ w = w' := by
  have ho := or_turn c hc
  have ha : bits .and .u64 (IntKind.u64.wrap (-15)) 31 = 17 := by decide
  go_enter Try.func27, Try.ntmps27
  go_wp2
  go_ret
  exact ⟨rfl, rfl⟩

set_option maxHeartbeats 400000 in
theorem masked_any (a : Option Addr) (len cap : Nat) (zs : List Int) (w : World) (hz : len = zs.length) (hp : Reads w a zs) :
    Calls Try.prog 18 #[.slice a len cap] w fun e w' => e = .returned (.int .u32 (Crc.mask (Crc.crc zs) : Int)) ∧ Below w.heap.size w w' := by
  have H := Lib.hid (of_any a len cap zs w hz hp)
  clear hz hp
  have hlt := Crc.crc_lt zs
  generalize Crc.crc zs = c at *
  go_enter Try.func18, Try.ntmps18
  go_wp2_with fail
  refine H.out.mono ?_
  rintro e w1 ⟨rfl, hb1⟩
  clear H
  go_wp2_with fail
  refine (turn_any c hlt _).mono ?_
  rintro e w2 ⟨rfl, rfl⟩
  have h2 := Crc.turn_lt hlt
  have hm : Crc.mask c = (c / 32768 + c % 32768 * 131072 + 2726488792) % 4294967296 := rfl
  generalize c / 32768 + c % 32768 * 131072 = t at *
  have HM := Lib.hid hm
  clear hm
  go_wp2_with fail
  go_ret
  exact ⟨by rw [HM.out, Int.natCast_emod, Int.natCast_add]; rfl, hb1⟩

end Go.Proofs.Ytlebeegcdadgiaa
