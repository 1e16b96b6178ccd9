/- The reference's Of and Masked, by their contracts. -/
import Derived.Test.YtaljfpkgancidaaBits
namespace Go.Proofs.Ytaljfpkgancidaa
open Go.RowKit

set_option maxRecDepth 100000 in
set_option maxHeartbeats 4000000 in
theorem refOf_any (a : Option Addr) (len cap : Nat) (zs : List Int) (w : World) (hz : len = zs.length) (hp : Reads w a zs) (hmax : zs.length ≤ 100000) :
    Calls Try.prog 61 #[.slice a len cap] w fun e w' => e = .returned (.int .u32 (Crc.crc zs : Int)) ∧ Below w.heap.size w w' := by
  subst hz
  have HP := Lib.hid hp
  clear hp
  obtain ⟨i0, hi, hz0, hz1, hz2⟩ := info_parts infoInt
  go_enter Try.func61, Try.ntmps61
  go_wp2
  go_loopw [3, 4] (fun v i wr => ∃ k : Nat, k ≤ zs.length ∧ i = .int .i64 (k : Int) ∧ Bits wr w.heap.size (8 * k) (Crc.raw zs) v ∧ Below w.heap.size w wr) (fun _ i _ => zs.length - (intOf i).toNat)
  case atStart => exact ⟨0, by omega, rfl, World.ownsRow_nil _ _ _ _, Below.refl _ _⟩
  case round =>
    obtain ⟨k, hk, rfl, hbits, hbel⟩ := hrel
    by_cases hlt : k < zs.length
    · have hrg := HP.out.range k
      obtain ⟨x, hx, hxb, hcell⟩ := HP.out.cell k hlt
      have hcell' := (hbel.cell (p := x.add k) (by rw [add_block]; exact hxb)).trans hcell
      clear hcell
      obtain ⟨z, hzz⟩ : ∃ z : Nat, zs.getD k 0 = z := ⟨(zs.getD k 0).toNat, by omega⟩
      rw [hzz] at hcell' hrg
      have HZ := Lib.hid hzz
      clear hzz
      subst hx
      have hd : decide ((k : Int) < (zs.length : Int)) = true := by simp; omega
      go_wp2
      go_loopw [3, 5, 6] (fun v y j wq => ∃ t : Nat, t ≤ 8 ∧ j = .int .i64 (t : Int) ∧ y = .int .i64 ((z / 2 ^ t : Nat) : Int) ∧ Bits wq w.heap.size (8 * k + t) (Crc.raw zs) v ∧ Below w.heap.size w wq) (fun _ _ j _ => 8 - (intOf j).toNat)
      case atStart => exact ⟨0, by omega, rfl, by simp, hbits, hbel⟩
      case round =>
        clear hcell' hbits hbel
        obtain ⟨t, ht, rfl, rfl, hown, hbel⟩ := hrel
        by_cases h8 : t = 8
        · subst h8
          go_wp2
          go_roundw
          case rel => exact ⟨k + 1, by omega, by go_num, hown, hbel⟩
          case measure => simp [intOf]; omega
        · have ht8 : t < 8 := by omega
          have hq : z / 2 ^ t ≤ 255 := Nat.le_trans (Nat.div_le_self _ _) (by omega)
          have hlow := bi_low (z / 2 ^ t)
          have hbit := raw_bit zs k t ht8 z HZ.out
          have hnext : z / 2 ^ (t + 1) = z / 2 ^ t / 2 := by rw [Nat.pow_succ, Nat.div_div_eq_div_mul]
          generalize hQ : z / 2 ^ t = q at *
          rw [← hbit] at hlow
          have HN := Lib.hid hnext
          clear hQ hbit hnext
          unfold Bits at hown
          go_wp2_with (at_builtin; refine wpList_append_own _ rfl _ _ 50 rfl w.heap.size 3 i0 (.int .i64 0) 1 8 Try.underlying50 hi hz0 hz1 hz2 rfl (by decide) _ _ _ rfl (hown.alloc _) ⟨wr.heap.size, 0, none⟩ 1 1 [.int .i64 (bi (Crc.raw zs (8 * k + t)))] rfl rfl (bits_new _ _ _) (ints_oneCell .i64 [bi (Crc.raw zs (8 * k + t))]) (by unfold maxLen; omega) (by omega) (by have := hbel.size; simp; omega) ?_)
          intro v' w1 hown1 hg1 _
          have hbel1 := (hbel.alloc hbel.size (.cells #[.int .i64 (bi (Crc.raw zs (8 * k + t)))] 3)).grown hg1 (by have := hbel.size; simp; omega) (fun k hk => (hown.lt k hk).1)
          have hown2 := Bits.snoc hown1
          clear hown hg1 hown1 hbel hlow
          go_wp2
          go_roundw
          case rel => exact ⟨t + 1, by omega, by go_num, by rw [HN.out]; go_num, hown2, hbel1⟩
          case measure => simp [intOf]; omega
    · obtain rfl : k = zs.length := by omega
      obtain ⟨a1, c1, rfl⟩ := hbits.shape
      clear hlt hk
      generalize hn : 8 * zs.length = n at *
      have hn24 : n ≤ 800000 := by omega
      have HNN := Lib.hid hn
      clear hn
      go_wp2
      go_loopw [3, 8] (fun v j wq => ∃ t : Nat, t ≤ 32 ∧ j = .int .i64 (t : Int) ∧ Bits wq w.heap.size (n + t) (Crc.raw zs) v ∧ Below w.heap.size w wq) (fun _ j _ => 32 - (intOf j).toNat)
      case atStart => exact ⟨0, by omega, rfl, hbits, hbel⟩
      case round =>
        clear hbits hbel
        obtain ⟨t, ht, rfl, hown, hbel⟩ := hrel
        by_cases h32 : t = 32
        · subst h32
          obtain ⟨g, cp, rfl, hgB, hgs, hlay⟩ := Bits.lay hown (by omega)
          clear hown ht
          go_wp2
          go_loopw [9] (fun j wq => ∃ t : Nat, t ≤ 32 ∧ j = .int .i64 (t : Int) ∧ Lay wq g (n + 32) (fun m => (Crc.raw zs m ^^ decide (m < t))) ∧ Below w.heap.size w wq ∧ wr.heap.size ≤ wq.heap.size) (fun j _ => 32 - (intOf j).toNat)
          case atStart => exact ⟨0, by omega, rfl, hlay.congr (by simp), hbel, Nat.le_refl _⟩
          case round =>
            clear hlay hbel
            obtain ⟨t, ht, rfl, hlay, hbel, hsz⟩ := hrel
            by_cases h32 : t = 32
            · subst h32
              clear ht
              generalize hf : (fun m => (Crc.raw zs m ^^ decide (m < 32))) = f at hlay
              have HF := Lib.hid hf
              clear hf
              go_wp2
              have hgh : g < wr.heap.size := by omega
              have hlay5 : Lay (wr.alloc (.cells pows 3)) g (n + 32) f := hlay.other (Below.heap_alloc _ _ _ hgh)
              have hbel5 : Below w.heap.size w (wr.alloc (.cells pows 3)) := hbel.alloc hbel.size _
              have hpow5 : (wr.alloc (.cells pows 3)).heap[wr.heap.size]? = some (.cells pows 3 (0, 0)) := heap_alloc_new _ _
              clear hlay hbel hsz hgs
              generalize wr.heap.size = h at *
              go_loopw [11] (fun i wq => ∃ (k : Nat) (f : Nat → Bool), k ≤ n ∧ i = .int .i64 (k : Int) ∧ Lay wq g (n + 32) f ∧ Crc.Left (Crc.raw zs) k f ∧ Below w.heap.size w wq ∧ wq.heap[h]? = some (.cells pows 3 (0, 0))) (fun i _ => n - (intOf i).toNat)
              case atStart => exact ⟨0, f, by omega, rfl, hlay5, Crc.Left.zero (fun m => by rw [← HF.out]), hbel5, hpow5⟩
              case round =>
                clear hlay5 hbel5 hpow5 HF f
                obtain ⟨k, f, hk, rfl, hlay, hleft, hbel, hpow⟩ := hrel
                have HL := Lib.hid hleft
                have HPW := Lib.hid hpow
                have HY := Lib.hid hlay
                clear hleft hpow hlay
                by_cases hkn : k = n
                · subst hkn
                  go_wp2
                  have hX : Crc.M ^^^ Crc.L Crc.M (Crc.raw zs) k < 4294967296 := Crc.xor_lt Crc.M_lt (Crc.L_lt Crc.M_lt _ _)
                  have hlast : ∀ i, i < 32 → (!f (k + i)) = (Crc.M ^^^ Crc.L Crc.M (Crc.raw zs) k).testBit i := fun i hi => HL.out.last (fun m hm => Crc.raw_end zs m (by have := HNN.out; omega)) i hi
                  have hcrc : Crc.crc zs = Crc.M ^^^ Crc.L Crc.M (Crc.raw zs) k := by rw [← HNN.out]; rfl
                  generalize Crc.M ^^^ Crc.L Crc.M (Crc.raw zs) k = X at *
                  have HLA := Lib.hid hlast
                  have HC := Lib.hid hcrc
                  clear hlast hcrc HL HPW HNN hgh hi hz0 hz1 hz2
                  go_loop [14, 15] (fun c i => ∃ t : Nat, t ≤ 32 ∧ i = .int .i64 ((t : Int) - 1) ∧ c = .int .u32 ((X / 2 ^ t : Nat) : Int)) (fun _ i => (intOf i + 1).toNat)
                  case atStart => exact ⟨32, by omega, rfl, by rw [Nat.div_eq_of_lt hX]; rfl⟩
                  case round =>
                    obtain ⟨t, ht, rfl, rfl⟩ := hrel
                    cases t with
                    | zero =>
                      rw [show (((0 : Nat) : Int) - 1) = -1 from rfl, Nat.pow_zero, Nat.div_one]
                      go_wp2
                      go_ret
                      rw [HC.out]
                      exact ⟨rfl, hbel⟩
                    | succ s =>
                      rw [show (((s + 1 : Nat) : Int) - 1) = (s : Int) by omega]
                      have hy := Crc.top_bits X s
                      have hy2 : X / 2 ^ (s + 1) ≤ 2147483647 := by
                        have : X / 2 ^ (s + 1) ≤ X / 2 ^ 1 := Nat.div_le_div_left (Nat.pow_le_pow_right (by decide) (by omega)) (by decide)
                        omega
                      generalize X / 2 ^ (s + 1) = y at *
                      have hbit := HLA.out s (by omega)
                      have hcell := HY.out.cellB (k + s) (by omega) _ rfl
                      rw [← hbit] at hy
                      generalize f (k + s) = b at *
                      have HYY := Lib.hid hy
                      clear hy hbit
                      cases b with
                      | false =>
                        have hcell0 : wr.cell? ⟨g, k + s, none⟩ = some (.int .i64 0) := hcell
                        clear hcell
                        go_wp2
                        go_round
                        case rel => exact ⟨s, by omega, by go_num, by rw [HYY.out]; go_num⟩
                        case measure => simp [intOf]
                      | true =>
                        have hcell0 : wr.cell? ⟨g, k + s, none⟩ = some (.int .i64 1) := hcell
                        clear hcell
                        go_wp2
                        go_round
                        case rel => exact ⟨s, by omega, by go_num, by rw [HYY.out]; go_num⟩
                        case measure => simp [intOf]
                · have hlt : k < n := by omega
                  cases hfk : f k with
                  | false =>
                    have hcell : wr.cell? ⟨g, k, none⟩ = some (.int .i64 0) := HY.out.cellB k (by omega) false hfk
                    have HFK := Lib.hid hfk
                    clear hfk
                    go_wp2
                    go_roundw
                    case rel => exact ⟨k + 1, f, by omega, by go_num, HY.out, HL.out.next0 HFK.out, hbel, HPW.out⟩
                    case measure => simp [intOf]; omega
                  | true =>
                    have hcell : wr.cell? ⟨g, k, none⟩ = some (.int .i64 1) := HY.out.cellB k (by omega) true hfk
                    have hfree := HY.out.free k
                    have HFK := Lib.hid hfk
                    have hst : Lay (wr.setCell ⟨g, k, none⟩ (.int .i64 0)) g (n + 32) (fun m => if m = k then false else f m) := HY.out.store k false
                    have HST := Lib.hid hst
                    clear hfk hst
                    go_wp2
                    go_loopw [12] (fun p wq => ∃ (q : Nat) (f2 : Nat → Bool), q ≤ 17 ∧ p = .int .i64 (q : Int) ∧ Lay wq g (n + 32) f2 ∧ Turned f k q f2 ∧ Below w.heap.size w wq ∧ wq.heap[h]? = some (.cells pows 3 (0, 0))) (fun p _ => 17 - (intOf p).toNat)
                    case atStart => exact ⟨0, _, by omega, rfl, HST.out, Turned.zero f k false, hbel.setCell (p := ⟨g, k, none⟩) hgB _, (heap_setCell_other _ _ _ _ (by show h ≠ g; omega)).trans HPW.out⟩
                    case round =>
                      clear HST HPW HY hcell hfree hbel
                      obtain ⟨q, f2, hq, rfl, hlay, hturn, hbel, hpow⟩ := hrel
                      have HT := Lib.hid hturn
                      have HPW := Lib.hid hpow
                      have HY := Lib.hid hlay
                      clear hturn hpow hlay
                      by_cases h17 : q = 17
                      · subst h17
                        go_wp2
                        go_roundw
                        case rel => exact ⟨k + 1, f2, by omega, by go_num, HY.out, HL.out.next1 HFK.out HT.out, hbel, HPW.out⟩
                        case measure => simp [intOf]; omega
                      · have hq17 : q < 17 := by omega
                        have hp := P_le q hq17
                        have hpc := cell_of_row _ h q _ _ _ HPW.out
                        rw [pows_at q hq17] at hpc
                        have hnx := HT.out.next hp
                        generalize Crc.P q = p at *
                        have HNX := Lib.hid hnx
                        have hcell := HY.out.cellB (k + 32 - p) (by omega) _ rfl
                        have hfree := HY.out.free (k + 32 - p)
                        have hst := HY.out.store (k + 32 - p) (!(f2 (k + 32 - p)))
                        generalize f2 (k + 32 - p) = b at *
                        have h1 := bi_not b
                        have h2 := bi_le b
                        have HST := Lib.hid hst
                        clear hst hnx HY
                        go_wp2
                        go_roundw
                        case rel => exact ⟨q + 1, _, by omega, by go_num, HST.out, HNX.out, hbel.setCell (p := ⟨g, k + 32 - p, none⟩) hgB _, (heap_setCell_other _ _ _ _ (by show h ≠ g; omega)).trans HPW.out⟩
                        case measure => simp [intOf]; omega
            · have ht32 : t < 32 := by omega
              have hcell := hlay.cellB t (by omega) (Crc.raw zs t) (by simp)
              have hfree := hlay.free t
              have hst := hlay.store t (!(Crc.raw zs t))
              generalize hb : Crc.raw zs t = b at hcell hst
              have h1 := bi_not b
              have h2 := bi_le b
              have HB := Lib.hid hb
              have HST := Lib.hid hst
              clear hst hlay hb
              go_wp2
              go_roundw
              case rel => exact ⟨t + 1, by omega, by go_num, HST.out.congr (fun m _ => by rw [← HB.out]; exact flip_next _ t m), hbel.setCell (p := ⟨g, t, none⟩) hgB _, by simpa using hsz⟩
              case measure => simp [intOf]; omega
        · have ht32 : t < 32 := by omega
          have hbit : bi (Crc.raw zs (n + t)) = 0 := by rw [Crc.raw_end zs _ (by have := HNN.out; omega)]; rfl
          have HB := Lib.hid hbit
          clear hbit
          unfold Bits at hown
          go_wp2_with (at_builtin; refine wpList_append_own _ rfl _ _ 50 rfl w.heap.size 3 i0 (.int .i64 0) 1 8 Try.underlying50 hi hz0 hz1 hz2 rfl (by decide) _ _ _ rfl (hown.alloc _) ⟨wr.heap.size, 0, none⟩ 1 1 [.int .i64 0] rfl rfl (bits_new _ _ _) (ints_oneCell .i64 [0]) (by unfold maxLen; omega) (by omega) (by have := hbel.size; simp; omega) ?_)
          intro v' w1 hown1 hg1 _
          have hbel1 := (hbel.alloc hbel.size (.cells #[.int .i64 0] 3)).grown hg1 (by have := hbel.size; simp; omega) (fun k hk => (hown.lt k hk).1)
          have hown2 := Bits.snoc (f := Crc.raw zs) (by rw [HB.out]; exact hown1)
          clear hown hg1 hown1 hbel
          go_wp2
          go_roundw
          case rel => exact ⟨t + 1, by omega, by go_num, hown2, hbel1⟩
          case measure => simp [intOf]; omega

set_option maxRecDepth 100000 in
set_option maxHeartbeats 400000 in
theorem refMasked_any (a : Option Addr) (len cap : Nat) (zs : List Int) (w : World) (hz : len = zs.length) (hp : Reads w a zs) (hmax : zs.length ≤ 100000) :
    Calls Try.prog 50 #[.slice a len cap] w fun e w' => e = .returned (.int .u32 (Crc.mask (Crc.crc zs) : Int)) ∧ Below w.heap.size w w' := by
  have H := Lib.hid (refOf_any a len cap zs w hz hp hmax)
  clear hz hp hmax
  have hlt := Crc.crc_lt zs
  generalize Crc.crc zs = c at *
  go_enter Try.func50, Try.ntmps50
  go_wp2_with fail
  refine H.out.mono ?_
  rintro e w1 ⟨rfl, hb1⟩
  clear H
  go_wp2_with fail
  go_ret
  exact ⟨by unfold Crc.mask; go_num, hb1⟩

end Go.Proofs.Ytaljfpkgancidaa
