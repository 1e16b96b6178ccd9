/- The reference's Masked; the chapter's own rows. -/
import Derived.Test.YtlookghkgbjeiaaRefOf
import Derived.Lib.SlBytesConst
namespace Go.Proofs.Ytlookghkgbjeiaa
open Go.RowKit

set_option maxRecDepth 100000 in
set_option maxHeartbeats 400000 in
theorem refMasked_any (a : Option Addr) (len cap : Nat) (zs : List Int) (w : World) (hz : len = zs.length) (hp : Reads w a zs) (h300 : zs.length ≤ 300) :
    Calls Try.prog 10 #[.slice a len cap] w fun e w' => e = .returned (.int .u32 (Crc.mask (Crc.crc zs) : Int)) ∧ Below w.heap.size w w' := by
  have H := Lib.hid (refOf_any a len cap zs w hz hp h300)
  clear hz hp h300
  have hlt := Crc.crc_lt zs
  generalize Crc.crc zs = c at *
  go_enter Try.func10, Try.ntmps10
  go_wp2_with fail
  refine H.out.mono ?_
  rintro e w1 ⟨rfl, hb1⟩
  clear H
  go_wp2_with fail
  go_ret
  exact ⟨by unfold Crc.mask; go_num, hb1⟩

theorem Reads.nil (w : World) (a : Option Addr) : Reads w a [] := ⟨fun i hi => absurd hi (by simp), (fun x hx => by cases hx), by simp⟩

theorem reads_row {w : World} {g : Nat} {cs : Array Value} {t : TypeId} {fr : Nat × Nat} (zs : List Int) (hg : w.heap[g]? = some (.cells cs t fr)) (hc : ∀ i, i < zs.length → cs[i]? = some (.int .u8 (zs.getD i 0)))
    (hr : ∀ x ∈ zs, 0 ≤ x ∧ x ≤ 255) (hl : zs.length ≤ 9223372036854775807) : Reads w (some ⟨g, 0, none⟩) zs :=
  ⟨fun i hi => ⟨_, rfl, lt_of_block hg, by
    rw [show ((⟨g, 0, none⟩ : Addr).add i) = ⟨g, i, none⟩ by unfold Addr.add; split <;> simp_all, cell_of_row w g i cs _ _ hg]
    exact hc i hi⟩, hr, hl⟩

def nine : List Int := [49, 50, 51, 52, 53, 54, 55, 56, 57]
theorem crc_nine : Crc.crc nine = 3808858755 := by decide +kernel
theorem crc_none : Crc.crc [] = 0 := by decide
theorem mask_none : Crc.mask 0 = 2726488792 := by decide

theorem of_none_lit (w : World) : Calls Try.prog 7 #[.slice none 0 0] w fun e w' => e = .returned (.int .u32 0) ∧ Below w.heap.size w w' := by
  have h := of_any none 0 0 [] w rfl (Reads.nil w none)
  rw [crc_none] at h
  exact h
theorem of_nine (w : World) : Calls Try.prog 7 #[.slice (some ⟨w.heap.size, 0, none⟩) 9 9] (w.alloc (.cells #[.int .u8 49, .int .u8 50, .int .u8 51, .int .u8 52, .int .u8 53, .int .u8 54, .int .u8 55, .int .u8 56, .int .u8 57] 5 (9, 10)))
    fun e w' => e = .returned (.int .u32 3808858755) ∧ Below w.heap.size w w' := by
  have h := of_any (some ⟨w.heap.size, 0, none⟩) 9 9 nine (w.alloc (.cells #[.int .u8 49, .int .u8 50, .int .u8 51, .int .u8 52, .int .u8 53, .int .u8 54, .int .u8 55, .int .u8 56, .int .u8 57] 5 (9, 10))) rfl
    (reads_row nine (heap_alloc_new w _) (fun i hi => by
      have : i = 0 ∨ i = 1 ∨ i = 2 ∨ i = 3 ∨ i = 4 ∨ i = 5 ∨ i = 6 ∨ i = 7 ∨ i = 8 := by simp [nine] at hi; omega
      rcases this with rfl | rfl | rfl | rfl | rfl | rfl | rfl | rfl | rfl <;> rfl) (by decide) (by decide))
  rw [crc_nine] at h
  refine h.mono ?_
  rintro e w' ⟨rfl, hb⟩
  exact ⟨rfl, ((Below.refl _ _).alloc (Nat.le_refl _) _).trans (hb.mono (by simp))⟩
theorem masked_none (w : World) : Calls Try.prog 9 #[.slice none 0 0] w fun e w' => e = .returned (.int .u32 2726488792) ∧ Below w.heap.size w w' := by
  have h := masked_any none 0 0 [] w rfl (Reads.nil w none)
  rw [crc_none, mask_none] at h
  exact h

set_option maxRecDepth 100000 in
set_option maxHeartbeats 1000000 in
theorem known_any (w : World) : Calls Try.prog 5 #[] w fun e w' => e = .returned (.bool true) ∧ Below w.heap.size w w' := by
  have kc := fun (w : World) (C : Array Value) (n c : Nat) => Lib.run_convert_bytes_const (P := Try.prog) w 22 5 C n c Try.underlying22 Try.underlying5
  go_enter Try.func5, Try.ntmps5
  go_wp2_with fail
  refine (of_none_lit _).mono ?_
  rintro e w1 ⟨rfl, hb1⟩
  go_wp2_with fail
  refine (of_nine _).mono ?_
  rintro e w2 ⟨rfl, hb2⟩
  have b2 := hb1.trans (hb2.mono hb1.size)
  clear hb1 hb2
  go_wp2_with fail
  refine (masked_none _).mono ?_
  rintro e w3 ⟨rfl, hb3⟩
  have b3 := b2.trans (hb3.mono b2.size)
  clear b2 hb3
  go_wp2_with fail
  go_ret
  exact ⟨rfl, b3⟩

end Go.Proofs.Ytlookghkgbjeiaa
