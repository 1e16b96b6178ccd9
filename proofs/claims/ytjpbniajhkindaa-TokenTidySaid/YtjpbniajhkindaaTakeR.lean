/- pack.Take and pack.TakeText, by their contracts: of any slice of bytes, at any place. -/
import Derived.Test.YtjpbniajhkindaaNumberR
import Derived.Shelf.Bytes.SlSmallAll
import Derived.RegionTactic
import Derived.BigRegion
namespace Go.Proofs.Ytjpbniajhkindaa
open Go.RowKit

/-- what Take tells, of what stands there -/
def Took (w w' : World) (p : Nat) (e : Ending) : Option (Nat × Nat) → Prop
  | none => e = .returned (.tuple #[.int .u64 0, .int .i64 0, .int .i64 4]) ∧ Below w.heap.size w w'
  | some (n, k) => e = .returned (.tuple #[.int .u64 (n : Int), .int .i64 ((p : Int) + (k : Int)), .int .i64 0]) ∧ Below w.heap.size w w'

set_option maxRecDepth 100000 in
set_option maxHeartbeats 1000000 in
theorem take_any (a : Option Addr) (len cap p : Nat) (zs : List Int) (w : World) (hlies : Reads w a zs) (hz : len = zs.length) (hl : len ≤ 9223372036854775806) (hp : p ≤ len) :
    Calls Try.prog 45 #[.slice a len cap, .int .i64 (p : Int)] w fun e w' => Took w w' p e (Num.dec 10 0 0 (zs.drop p)) := by
  have HC := Lib.hid hlies
  have HZ := Lib.hid hz
  clear hlies hz
  go_enter Try.func45, Try.ntmps45
  go_wp2_with fail
  have e1 : ((w.alloc (.cells #[.slice a len cap] 33)).alloc (.cells #[.int .i64 (p : Int)] 3)).heap.size = w.heap.size + 2 := by simp
  have hbel : Below w.heap.size w ((w.alloc (.cells #[.slice a len cap] 33)).alloc (.cells #[.int .i64 (p : Int)] 3)) :=
    ((Below.refl _ _).alloc (Nat.le_refl _) _).alloc (by simp) _
  have hN : ((w.alloc (.cells #[.slice a len cap] 33)).alloc (.cells #[.int .i64 (p : Int)] 3)).heap[w.heap.size + 1]? = some (.cells #[.int .i64 (p : Int)] 3 (0, 0)) := by
    have := heap_alloc_new (w.alloc (.cells #[.slice a len cap] 33)) (.cells #[.int .i64 (p : Int)] 3)
    simpa using this
  have hS : ((w.alloc (.cells #[.slice a len cap] 33)).alloc (.cells #[.int .i64 (p : Int)] 3)).heap[w.heap.size]? = some (.cells #[.slice a len cap] 33 (0, 0)) :=
    (Below.heap_alloc _ _ _ (by simp)).trans (heap_alloc_new w _)
  have hsrc : Src ((w.alloc (.cells #[.slice a len cap] 33)).alloc (.cells #[.int .i64 (p : Int)] 3)) (w.heap.size + 1) w.heap.size a len cap zs :=
    ⟨cell_of_one hS, fun i hi => by
      obtain ⟨x, hx, hb, hc⟩ := HC.out.cell i (by rw [← HZ.out]; exact hi)
      exact ⟨x, hx, by omega, (hbel.cell (p := x.add i) (by rw [add_block]; exact hb)).trans hc⟩, by omega, HZ.out, hl⟩
  refine (number_any (w.heap.size + 1) w.heap.size a len cap p zs _ hsrc hN hp HC.out.hr).mono ?_
  intro e w1 ht
  clear hsrc hS hN HC
  obtain ⟨D, hD⟩ : ∃ D, D = Num.dec 10 0 0 (zs.drop p) := ⟨_, rfl⟩
  rw [← hD] at ht
  have HD := Lib.hid hD
  clear hD
  cases D with
  | none =>
    obtain ⟨rfl, hb1, q, hn1⟩ := ht
    have c1 := cell_of_one hn1
    have c2 := free_of_one hn1
    have d1 := cell_of_one (one_setCell (u := .int .i64 0) hn1)
    go_wp2_with fail
    refine bodyPost_ret (v := .tuple #[.int .u64 0, .int .i64 0, .int .i64 4]) (by simp [results, Try.results45, go_sem, d1]) rfl ?_
    rw [← HD.out]
    exact ⟨rfl, ((hbel.trans (hb1.mono (by omega)))).setCell (p := ⟨w.heap.size + 1, 0, none⟩) (by show _ ≤ w.heap.size + 1; omega) _⟩
  | some nk =>
    obtain ⟨n, k⟩ := nk
    obtain ⟨rfl, hb1, hn1⟩ := ht
    obtain ⟨q, hq⟩ : ∃ q : Int, q = ((p + k : Nat) : Int) := ⟨_, rfl⟩
    rw [← hq] at hn1
    have HQ := Lib.hid hq
    clear hq
    have c1 := cell_of_one hn1
    have c2 := free_of_one hn1
    go_wp2_with fail
    go_region
    go_wp2_with fail
    have d1 := cell_of_one (one_setCell (u := .int .i64 q) hn1)
    refine bodyPost_ret (v := .tuple #[.int .u64 n, .int .i64 q, .int .i64 0]) (by simp [results, Try.results45, go_sem, d1]) rfl ?_
    rw [← HD.out]
    exact ⟨by rw [HQ.out, Int.natCast_add], (((hbel.trans (hb1.mono (by omega)))).setCell (p := ⟨w.heap.size + 1, 0, none⟩) (by show _ ≤ w.heap.size + 1; omega) _).drew⟩


set_option maxRecDepth 100000 in
set_option maxHeartbeats 1000000 in
/-- a place outside the bytes -/
theorem take_out (a : Option Addr) (len cap : Nat) (p : Int) (w : World) (hp : p < 0 ∨ (len : Int) < p) :
    Calls Try.prog 45 #[.slice a len cap, .int .i64 p] w fun e w' => e = .returned (.tuple #[.int .u64 0, .int .i64 0, .int .i64 2]) ∧ Below w.heap.size w w' := by
  have HO := Lib.hid hp
  clear hp
  by_cases h1 : p < 0
  · go_enter Try.func45, Try.ntmps45
    go_wp2_with fail
    have d1 : ((w.alloc (.cells #[.slice a len cap] 33)).alloc (.cells #[.int .i64 0] 3)).cell? ⟨w.heap.size + 1, 0, none⟩ = some (.int .i64 0) := by simp
    exact bodyPost_ret (v := .tuple #[.int .u64 0, .int .i64 0, .int .i64 2]) (by simp [results, Try.results45, go_sem, d1]) rfl ⟨rfl, ((Below.refl _ _).alloc (Nat.le_refl _) _).alloc (by simp) _⟩
  · have h2 : (len : Int) < p := by have := HO.out; omega
    go_enter Try.func45, Try.ntmps45
    go_wp2_with fail
    have d1 : ((w.alloc (.cells #[.slice a len cap] 33)).alloc (.cells #[.int .i64 0] 3)).cell? ⟨w.heap.size + 1, 0, none⟩ = some (.int .i64 0) := by simp
    exact bodyPost_ret (v := .tuple #[.int .u64 0, .int .i64 0, .int .i64 2]) (by simp [results, Try.results45, go_sem, d1]) rfl ⟨rfl, ((Below.refl _ _).alloc (Nat.le_refl _) _).alloc (by simp) _⟩

/-- what TakeText tells, of the count that stands there -/
def TookText (w w' : World) (len p : Nat) (zs : List Int) (e : Ending) : Option (Nat × Nat) → Prop
  | none => e = .returned (.tuple #[.string ByteArray.empty, .int .i64 0, .int .i64 4]) ∧ Below w.heap.size w w'
  | some (n, k) => Below w.heap.size w w' ∧
      if n ≤ 4096 ∧ p + k + n ≤ len then e = .returned (.tuple #[.string (strOfNums ((zs.drop (p + k)).take n)), .int .i64 ((p : Int) + (k : Int) + (n : Int)), .int .i64 0])
      else e = .returned (.tuple #[.string ByteArray.empty, .int .i64 0, .int .i64 4])

set_option maxRecDepth 100000 in
set_option maxHeartbeats 1000000 in
theorem takeText_any (a : Option Addr) (len cap p : Nat) (zs : List Int) (w : World) (hlies : Reads w a zs) (hz : len = zs.length) (hl : len ≤ 9223372036854775806) (hp : p ≤ len) (hcap : len ≤ cap) (hcm : cap ≤ 9223372036854775807) :
    Calls Try.prog 42 #[.slice a len cap, .int .i64 (p : Int)] w fun e w' => TookText w w' len p zs e (Num.dec 10 0 0 (zs.drop p)) := by
  have hlt := fun n j h => Num.dec_lt 10 0 0 (zs.drop p) n j (by omega) (by simp) (fun x hx => hlies.hr x (List.mem_of_mem_drop hx)) h
  have HT := Lib.hid (take_any a len cap p zs w hlies hz hl hp)
  have HLT := Lib.hid hlt
  have HL := Lib.hid hlies
  have hzz := hz
  clear hlt hlies hz
  have hdl : (zs.drop p).length = len - p := by rw [List.length_drop]; omega
  rw [hdl] at HLT
  have HZ := Lib.hid hzz
  clear hzz hdl
  obtain ⟨D, hD⟩ : ∃ D, D = Num.dec 10 0 0 (zs.drop p) := ⟨_, rfl⟩
  rw [← hD] at HT HLT ⊢
  clear hD
  go_enter Try.func42, Try.ntmps42
  go_wp2_with fail
  refine HT.out.mono ?_
  intro e w1 ht
  clear HT
  cases D with
  | none =>
    obtain ⟨rfl, hb⟩ := ht
    go_wp2_with fail
    go_ret3
    exact ⟨rfl, hb⟩
  | some nk =>
    obtain ⟨n, k⟩ := nk
    obtain ⟨rfl, hb⟩ := ht
    obtain ⟨hn, hk0, hk⟩ := HLT.out n k rfl
    by_cases hbig : 4096 < n
    · go_wp2_with fail
      go_ret3
      exact ⟨hb, by rw [if_neg (by omega)]; rfl⟩
    · by_cases hfit : p + k + n ≤ len
      · have HP : Hid (n ≤ 4096 ∧ p + k + n ≤ len) := ⟨by omega, hfit⟩
        by_cases hc : cap = p + k
        · obtain rfl : n = 0 := by omega
          have hcv : ∀ c : Nat, (convert 33 9 (.slice a 0 c)).run Try.prog w1 = .ok (.string ByteArray.empty) w1 := fun c =>
            run_convert_bytes_zero w1 _ _ Try.underlying33 Try.underlying5 a c _ Try.underlying9
          go_wp2_with fail
          go_ret3
          exact ⟨hb, by rw [if_pos HP.out]; rfl⟩
        · have hcv : (convert 33 9 (.slice (Option.map (fun x => x.add (p + k)) a) n (cap - (p + k)))).run Try.prog w1 = .ok (.string (strOfNums ((zs.drop (p + k)).take n))) w1 :=
            (((HL.out.below hb).drop (p + k)).take n).text n _ (by have := HZ.out; rw [List.length_take, List.length_drop]; omega)
          go_wp2_with fail
          go_ret3
          exact ⟨hb, by rw [if_pos HP.out]; rfl⟩
      · go_wp2_with fail
        go_ret3
        exact ⟨hb, by rw [if_neg (by omega)]; rfl⟩

end Go.Proofs.Ytjpbniajhkindaa
