/- check.On, check.Of, by their contracts. -/
import Derived.Test.YtlebeegcdadgiaaDiv
import Derived.Test.YtlebeegcdadgiaaReads
namespace Go.Proofs.Ytlebeegcdadgiaa
open Go.RowKit

theorem not_u32 (c : Nat) (hc : c < 4294967296) : bits .xor .u32 IntKind.u32.max (c : Int) = ((Crc.M ^^^ c : Nat) : Int) := u32_xor_nat 4294967295 c (by decide) hc
theorem tbl_at (k : Nat) (hk : k < 16) : (tbl 16)[k]? = some (.int .u32 (Crc.steps 4 k : Int)) := by
  simp [tbl, hk]
theorem half_xor (y : Nat) (hy : y < 4294967296) : bits .xor .u32 ((y : Int) / 16) (Crc.steps 4 (y % 16) : Int) = ((Crc.steps 4 y : Nat) : Int) := by
  rw [show ((y : Int) / 16) = ((y / 16 : Nat) : Int) by omega, u32_xor_nat _ _ (by omega) (Crc.steps_lt (by omega) 4), ← Crc.steps_half]

set_option maxRecDepth 100000 in
set_option maxHeartbeats 1000000 in
theorem on_some (c : Nat) (hc : c < 4294967296) (x : Addr) (cap : Nat) (zs : List Int) (w : World) (hp : Reads w (some x) zs) :
    Calls Try.prog 34 #[.int .u32 (c : Int), .slice (some x) zs.length cap] w fun e w' => e = .returned (.int .u32 (Crc.on c zs : Int)) ∧ Below w.heap.size w w' := by
  have hn := not_u32 c hc
  have hl := hp.hl
  have HP := Lib.hid hp
  clear hp
  go_enter Try.func34, Try.ntmps34
  go_wp2_with fail
  refine (remainders_any _).mono ?_
  rintro e w1 ⟨rfl, hb1⟩
  have hnew := heap_alloc_new w1 (.cells (tbl 0).toArray 60)
  go_wp2_with (refine wpList_store_row rfl 60 _ _ rfl w1.heap.size (tbl 16).toArray rfl rfl 60 (tbl 0).toArray hnew (by rw [tbl_size]; kernel_rfl) rfl tbl_one ?_)
  rw [zeros_tbl]
  have hrow : ((w1.alloc (.cells (tbl 0).toArray 60)).setRow w1.heap.size (tbl 16).toArray).heap[w1.heap.size]? = some (.cells (tbl 16).toArray 60 (0, 0)) := setRow_heap _ _ _ _ _ _ hnew
  have hbel : Below w.heap.size w ((w1.alloc (.cells (tbl 0).toArray 60)).setRow w1.heap.size (tbl 16).toArray) := below_setRow (hb1.alloc hb1.size _) hb1.size _
  generalize (w1.alloc (.cells (tbl 0).toArray 60)).setRow w1.heap.size (tbl 16).toArray = W at *
  generalize w1.heap.size = g at *
  have HN := Lib.hid (HP.out.below hbel)
  clear hnew hb1 HP hn
  have HR := Lib.hid hrow
  clear hrow
  go_loop [6, 14] (fun v i => ∃ k : Nat, k ≤ zs.length ∧ i = .int .i64 (k : Int) ∧ v = .int .u32 (Crc.L (Crc.M ^^^ c) (Crc.raw zs) (8 * k) : Int)) (fun _ i => zs.length - (intOf i).toNat)
  case atStart => exact ⟨0, by omega, rfl, rfl⟩
  case round =>
    obtain ⟨k, hk, rfl, rfl⟩ := hrel
    have hL := Crc.L_lt (Crc.xor_lt Crc.M_lt hc) (Crc.raw zs) (8 * k)
    generalize hy : Crc.L (Crc.M ^^^ c) (Crc.raw zs) (8 * k) = y at hL
    have HY := Lib.hid hy
    clear hy
    by_cases hlt : k < zs.length
    · have hcell := HN.out.at hlt
      have hz := HN.out.range k
      obtain ⟨z, hzz⟩ : ∃ z : Nat, zs.getD k 0 = z := ⟨(zs.getD k 0).toNat, by omega⟩
      rw [hzz] at hcell hz
      have hx := u32_xor_nat y z hL (by omega)
      have HZ := Lib.hid hzz
      clear hzz
      have hd : decide ((k : Int) < (zs.length : Int)) = true := by simp; omega
      have hlY := Crc.xor_lt hL (show z < 4294967296 by omega)
      go_wp2
      generalize hY : y ^^^ z = Y at *
      have HX := Lib.hid hY
      clear hY hx
      go_loop [6, 22] (fun v j => ∃ i : Nat, i ≤ 2 ∧ j = .int .i64 (i : Int) ∧ v = .int .u32 (Crc.steps (4 * i) Y : Int)) (fun _ j => 2 - (intOf j).toNat)
      case atStart => exact ⟨0, by omega, rfl, rfl⟩
      case round =>
        obtain ⟨i, hi, rfl, rfl⟩ := hrel
        have hS := Crc.steps_lt hlY (4 * i)
        generalize hs : Crc.steps (4 * i) Y = q at hS
        have HS := Lib.hid hs
        clear hs
        by_cases h2 : i = 2
        · subst h2
          go_wp2
          go_round
          case rel => exact ⟨k + 1, by omega, by go_num, by rw [Crc.L_byte _ _ _ (HN.out.range k), HY.out, HZ.out, Int.toNat_natCast, HX.out, ← HS.out]⟩
          case measure => simp [intOf]; omega
        · have hi2 : i < 2 := by omega
          have ht := half_xor q hS
          have hm : q % 16 < 16 := Nat.mod_lt _ (by decide)
          have hc4 := cell_of_row _ g (q % 16) _ _ _ HR.out
          rw [List.getElem?_toArray, tbl_at _ hm] at hc4
          go_wp2
          go_round
          case rel => exact ⟨i + 1, by omega, by go_num, by rw [show 4 * (i + 1) = 4 * i + 4 by omega, Crc.steps_add, HS.out]⟩
          case measure => simp [intOf]; omega
    · have hv : bits .xor .u32 IntKind.u32.max (y : Int) = ((Crc.M ^^^ y : Nat) : Int) := not_u32 y hL
      go_wp2
      go_ret
      refine ⟨?_, hbel⟩
      rw [← HY.out, show k = zs.length by omega]
      rfl

end Go.Proofs.Ytlebeegcdadgiaa
