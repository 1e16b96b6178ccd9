/- pack.Take, by its contract: at a place within the bytes, or just behind them. -/
import Derived.Test.YtdhfflfjbkpmoaaNumber
import Derived.RegionTactic
import Derived.BigRegion
namespace Go.Proofs.Ytdhfflfjbkpmoaa
open Go.RowKit

/-- len bytes lie at ⟨b, off⟩: the numbers zs -/
structure Lies (w : World) (b off len : Nat) (zs : List Int) : Prop where
  lt : b < w.heap.size
  cell : ∀ i, i < len → w.cell? ⟨b, off + i, none⟩ = some (.int .u8 (zs.getD i 0))
  hz : len = zs.length
  hl : len ≤ 9223372036854775806
  hr : ∀ x ∈ zs, 0 ≤ x ∧ x ≤ 255

theorem Lies.below {w w' : World} {b off len : Nat} {zs : List Int} (h : Lies w b off len zs) (hb : Below w.heap.size w w') : Lies w' b off len zs :=
  ⟨Nat.lt_of_lt_of_le h.lt hb.size, fun i hi => (hb.cell (p := ⟨b, off + i, none⟩) h.lt).trans (h.cell i hi), h.hz, h.hl, h.hr⟩

/-- what Take tells, of what stands there -/
def Took (w w' : World) (p : Nat) (e : Ending) : Option (Nat × Nat) → Prop
  | none => e = .returned (.tuple #[.int .u64 0, .int .i64 0, .int .i64 4]) ∧ Below w.heap.size w w'
  | some (n, k) => e = .returned (.tuple #[.int .u64 (n : Int), .int .i64 ((p : Int) + (k : Int)), .int .i64 0]) ∧ Below w.heap.size w w'

set_option maxRecDepth 100000 in
set_option maxHeartbeats 1000000 in
theorem take_any (b off len cap p : Nat) (zs : List Int) (w : World) (hlies : Lies w b off len zs) (hp : p ≤ len) :
    Calls Try.prog 13 #[.slice (some ⟨b, off, none⟩) len cap, .int .i64 (p : Int)] w fun e w' => Took w w' p e (Num.dec 10 0 0 (zs.drop p)) := by
  obtain ⟨hb, hcell, hz, hl, hr⟩ := hlies
  have HC := Lib.hid hcell
  have HR := Lib.hid hr
  have HZ := Lib.hid hz
  clear hcell hr hz
  go_enter Try.func13, Try.ntmps13
  go_wp2_with fail
  have e1 : ((w.alloc (.cells #[.slice (some ⟨b, off, none⟩) len cap] 24)).alloc (.cells #[.int .i64 (p : Int)] 3)).heap.size = w.heap.size + 2 := by simp
  have hbel : Below w.heap.size w ((w.alloc (.cells #[.slice (some ⟨b, off, none⟩) len cap] 24)).alloc (.cells #[.int .i64 (p : Int)] 3)) :=
    ((Below.refl _ _).alloc (Nat.le_refl _) _).alloc (by simp) _
  have hN : ((w.alloc (.cells #[.slice (some ⟨b, off, none⟩) len cap] 24)).alloc (.cells #[.int .i64 (p : Int)] 3)).heap[w.heap.size + 1]? = some (.cells #[.int .i64 (p : Int)] 3 (0, 0)) := by
    have := heap_alloc_new (w.alloc (.cells #[.slice (some ⟨b, off, none⟩) len cap] 24)) (.cells #[.int .i64 (p : Int)] 3)
    simpa using this
  have hS : ((w.alloc (.cells #[.slice (some ⟨b, off, none⟩) len cap] 24)).alloc (.cells #[.int .i64 (p : Int)] 3)).heap[w.heap.size]? = some (.cells #[.slice (some ⟨b, off, none⟩) len cap] 24 (0, 0)) :=
    (Below.heap_alloc _ _ _ (by simp)).trans (heap_alloc_new w _)
  have hsrc : Src ((w.alloc (.cells #[.slice (some ⟨b, off, none⟩) len cap] 24)).alloc (.cells #[.int .i64 (p : Int)] 3)) (w.heap.size + 1) w.heap.size b off len cap zs :=
    ⟨cell_of_one hS, fun i hi => (hbel.cell (p := ⟨b, off + i, none⟩) hb).trans (HC.out i hi), by omega, by omega, HZ.out, hl⟩
  refine (number_any (w.heap.size + 1) w.heap.size b off len cap p zs _ hsrc hN hp HR.out).mono ?_
  intro e w1 ht
  clear hsrc hS hN HC
  obtain ⟨D, hD⟩ : ∃ D, D = Num.dec 10 0 0 (zs.drop p) := ⟨_, rfl⟩
  rw [← hD] at ht
  have HD := Lib.hid hD
  clear hD
  cases D with
  | none =>
    obtain ⟨rfl, hb1, q, hn1⟩ := ht
    have c1 := cell_of_one hn1
    have c2 := free_of_one hn1
    have d1 := cell_of_one (one_setCell (u := .int .i64 0) hn1)
    go_wp2_with fail
    refine bodyPost_ret (v := .tuple #[.int .u64 0, .int .i64 0, .int .i64 4]) (by simp [results, Try.results13, go_sem, d1]) rfl ?_
    rw [← HD.out]
    exact ⟨rfl, ((hbel.trans (hb1.mono (by omega)))).setCell (p := ⟨w.heap.size + 1, 0, none⟩) (by show _ ≤ w.heap.size + 1; omega) _⟩
  | some nk =>
    obtain ⟨n, k⟩ := nk
    obtain ⟨rfl, hb1, hn1⟩ := ht
    obtain ⟨q, hq⟩ : ∃ q : Int, q = ((p + k : Nat) : Int) := ⟨_, rfl⟩
    rw [← hq] at hn1
    have HQ := Lib.hid hq
    clear hq
    have c1 := cell_of_one hn1
    have c2 := free_of_one hn1
    go_wp2_with fail
    go_region
    go_wp2_with fail
    have d1 := cell_of_one (one_setCell (u := .int .i64 q) hn1)
    refine bodyPost_ret (v := .tuple #[.int .u64 n, .int .i64 q, .int .i64 0]) (by simp [results, Try.results13, go_sem, d1]) rfl ?_
    rw [← HD.out]
    exact ⟨by rw [HQ.out, Int.natCast_add], (((hbel.trans (hb1.mono (by omega)))).setCell (p := ⟨w.heap.size + 1, 0, none⟩) (by show _ ≤ w.heap.size + 1; omega) _).drew⟩

end Go.Proofs.Ytdhfflfjbkpmoaa
