/- pack.Take's closure and pack.number, by their contracts, over any slice of bytes. pack.Take and pack.TakeText, by their contracts: of any slice of bytes, at any place. -/
import Derived.Test.YtoghalmjbbkjhaaGreatDoorPNum
import Derived.Test.YtoghalmjbbkjhaaGreatDoorMaq
import Derived.OneCell
import Derived.Shelf.Bytes.SlSmallAll
import Derived.RegionTactic
import Derived.BigRegion
namespace Go.Proofs.YtoghalmjbbkjhaaGreatDoor.Pk
open Go.RowKit

/-- the closure's two captured cells: the place that is next (block N), and the slice (block S), whose bytes are read at a -/
structure Src (w : World) (N S : Nat) (a : Option Addr) (len cap : Nat) (zs : List Int) : Prop where
  sl : w.cell? ⟨S, 0, none⟩ = some (.slice a len cap)
  cell : ∀ i, i < len → ∃ x, a = some x ∧ x.block < N ∧ w.cell? (x.add i) = some (.int .u8 (zs.getD i 0))
  SN : S < N
  hz : len = zs.length
  hl : len ≤ 9223372036854775806

theorem Src.below {w w' : World} {N S : Nat} {a : Option Addr} {len cap : Nat} {zs : List Int} (h : Src w N S a len cap zs) (hb : Below N w w') : Src w' N S a len cap zs :=
  ⟨(hb.cell (p := ⟨S, 0, none⟩) h.SN).trans h.sl, fun i hi => by
    obtain ⟨x, hx, hN, hc⟩ := h.cell i hi
    exact ⟨x, hx, hN, (hb.cell (p := x.add i) (by rw [add_block]; exact hN)).trans hc⟩, h.SN, h.hz, h.hl⟩

theorem take1_end (N S : Nat) (a : Option Addr) (len cap : Nat) (zs : List Int) (w : World) (hs : Src w N S a len cap zs) (hn : w.heap[N]? = some (.cells #[.int .i64 (len : Int)] 3 (0, 0))) :
    Calls Tryz.prog 74 #[.pointer (some ⟨N, 0, none⟩), .pointer (some ⟨S, 0, none⟩)] w fun e w' => e = .returned (.tuple #[.int .u8 0, .bool false]) ∧ w = w' := by
  have c1 := cell_of_one hn
  have c2 := hs.sl
  clear hs hn
  go_enter Tryz.func74, Tryz.ntmps74
  go_wp2
  go_ret2
  exact ⟨rfl, rfl⟩

theorem take1_more (N S : Nat) (a : Option Addr) (len cap p : Nat) (zs : List Int) (w : World) (hs : Src w N S a len cap zs) (hn : w.heap[N]? = some (.cells #[.int .i64 (p : Int)] 3 (0, 0))) (hp : p < len) :
    Calls Tryz.prog 74 #[.pointer (some ⟨N, 0, none⟩), .pointer (some ⟨S, 0, none⟩)] w fun e w' => e = .returned (.tuple #[.int .u8 (zs.getD p 0), .bool true]) ∧ w' = w.setCell ⟨N, 0, none⟩ (.int .i64 ((p + 1 : Nat) : Int)) := by
  have c1 := cell_of_one hn
  have c2 := hs.sl
  have c3 := free_of_one hn
  obtain ⟨x, rfl, c6, c4⟩ := hs.cell p hp
  have c5 := hs.SN
  have c7 := hs.hl
  have d1 : (w.setCell ⟨N, 0, none⟩ (.int .i64 ((p : Int) + 1))).cell? ⟨N, 0, none⟩ = some (.int .i64 ((p : Int) + 1)) := cell_of_one (one_setCell hn)
  have d2 : (w.setCell ⟨N, 0, none⟩ (.int .i64 ((p : Int) + 1))).cell? (x.add p) = some (.int .u8 (zs.getD p 0)) := (((Below.refl N w).setCell (p := ⟨N, 0, none⟩) (Nat.le_refl _) _).cell (p := x.add p) (by rw [add_block]; exact c6)).trans c4
  clear hs hn
  go_enter Tryz.func74, Tryz.ntmps74
  go_wp2
  go_ret2
  exact ⟨by simp [List.getD], by simp⟩

/-- one round of 'number' calls the closure: what it tells -/
theorem take1_any (N S : Nat) (a : Option Addr) (len cap p : Nat) (zs : List Int) (w : World) (hs : Src w N S a len cap zs) (hn : w.heap[N]? = some (.cells #[.int .i64 (p : Int)] 3 (0, 0))) (hp : p ≤ len) :
    Calls Tryz.prog 74 #[.pointer (some ⟨N, 0, none⟩), .pointer (some ⟨S, 0, none⟩)] w fun e w' =>
      if p < len then e = .returned (.tuple #[.int .u8 (zs.getD p 0), .bool true]) ∧ Below N w w' ∧ w'.heap[N]? = some (.cells #[.int .i64 ((p + 1 : Nat) : Int)] 3 (0, 0))
      else e = .returned (.tuple #[.int .u8 0, .bool false]) ∧ w = w' := by
  by_cases h : p < len
  · refine (take1_more N S a len cap p zs w hs hn h).mono ?_
    rintro e w' ⟨he, rfl⟩
    rw [if_pos h]
    exact ⟨he, (Below.refl N w).setCell (p := ⟨N, 0, none⟩) (Nat.le_refl _) _, one_setCell hn⟩
  · obtain rfl : p = len := by omega
    refine (take1_end N S a p cap zs w hs hn).mono ?_
    rintro e w' ⟨he, hw⟩
    rw [if_neg h]
    exact ⟨he, hw⟩

/-- what 'number' tells -/
def Told (w w' : World) (N at0 : Nat) (e : Ending) : Option (Nat × Nat) → Prop
  | none => e = .returned (.tuple #[.int .u64 0, .bool false]) ∧ Below N w w' ∧ ∃ q : Nat, w'.heap[N]? = some (.cells #[.int .i64 (q : Int)] 3 (0, 0))
  | some (n, k) => e = .returned (.tuple #[.int .u64 (n : Int), .bool true]) ∧ Below N w w' ∧ w'.heap[N]? = some (.cells #[.int .i64 ((at0 + k : Nat) : Int)] 3 (0, 0))

theorem told_some {w w1 : World} {N p v k q : Nat} {X : Int} (hX : X = (v : Int)) (hq : q = p + k) (hb : Below N w w1) (hn : w1.heap[N]? = some (.cells #[.int .i64 (q : Int)] 3 (0, 0))) :
    Told w w1 N p (.returned (.tuple #[.int .u64 X, .bool true])) (some (v, k)) := by
  subst hX hq
  exact ⟨rfl, hb, hn⟩
theorem and0 : IntKind.u64.wrap (bits .and .u8 0 127) = 0 % 128 := by rw [u8_and127 0 (by decide) (by decide)]; decide

set_option maxRecDepth 100000 in
set_option maxHeartbeats 1000000 in
theorem number_any (N S : Nat) (a : Option Addr) (len cap p : Nat) (zs : List Int) (w : World) (hs : Src w N S a len cap zs) (hn : w.heap[N]? = some (.cells #[.int .i64 (p : Int)] 3 (0, 0))) (hp : p ≤ len)
    (hr : ∀ x ∈ zs, 0 ≤ x ∧ x ≤ 255) :
    Calls Tryz.prog 73 #[.func (.func 74) #[] #[.pointer (some ⟨N, 0, none⟩), .pointer (some ⟨S, 0, none⟩)]] w fun e w' => Told w w' N p e (Num.dec 10 0 0 (zs.drop p)) := by
  have HS := Lib.hid hs
  have HN := Lib.hid hn
  have HR := Lib.hid hr
  have hlen := hs.hl
  have hzl := hs.hz
  have HL := Lib.hid hzl
  clear hs hn hr hzl
  go_enter Tryz.func73, Tryz.ntmps73
  go_wp2
  go_loopw [4, 5] (fun x sh wr => ∃ (k acc q : Nat), k ≤ 10 ∧ q = p + k ∧ q ≤ len ∧ sh = .int .i64 ((7 * k : Nat) : Int) ∧ x = .int .u64 (acc : Int) ∧ acc < 128 ^ k ∧
      Num.dec 10 0 0 (zs.drop p) = Num.dec (10 - k) k acc (zs.drop q) ∧ Below N w wr ∧ wr.heap[N]? = some (.cells #[.int .i64 (q : Int)] 3 (0, 0)))
    (fun _ sh _ => 70 - (intOf sh).toNat)
  case atStart => exact ⟨0, 0, p, by omega, by omega, hp, rfl, rfl, by simp, rfl, Below.refl _ _, HN.out⟩
  case round =>
    obtain ⟨k, acc, q, hk, hq, hql, rfl, rfl, hacc, hdec, hbel, hcell⟩ := hrel
    have HQ := Lib.hid hq
    have HD := Lib.hid hdec
    have HC := Lib.hid hcell
    have HA := Lib.hid hacc
    clear hq hdec hcell hacc
    by_cases h10 : k = 10
    · subst h10
      go_wp2_with fail
      go_ret2
      rw [HD.out]
      exact ⟨rfl, hbel, _, HC.out⟩
    · have hk9 : k ≤ 9 := by omega
      clear hk h10
      go_wp2_with fail
      refine (take1_any N S a len cap q zs wr (HS.out.below hbel) HC.out hql).mono ?_
      intro e w1 h
      by_cases hlt : q < len
      · rw [if_pos hlt] at h
        obtain ⟨rfl, hb1, hn1⟩ := h
        have hz : q < zs.length := by have := HL.out; omega
        have hdrop : zs.drop q = zs.getD q 0 :: zs.drop (q + 1) := by rw [List.drop_eq_getElem_cons hz]; simp [List.getD, List.getElem?_eq_getElem hz]
        have hrange := HR.out (zs.getD q 0) (by simp [List.getD, List.getElem?_eq_getElem hz])
        obtain ⟨c, hc⟩ : ∃ c, c = zs.getD q 0 := ⟨_, rfl⟩
        rw [← hc] at hdrop hrange
        rw [← hc]
        have HD1 := Lib.hid hdrop
        clear hc hdrop hz
        have hand : bits .and .u8 c 127 = c % 128 := u8_and127 c hrange.1 (by omega)
        go_wp2_with fail
        · go_ret2
          have hc0 : c = 0 := by assumption
          rw [HD.out, HD1.out, show 10 - k = (9 - k) + 1 by omega, Num.dec_zero hc0 (by omega)]
          exact ⟨rfl, hbel.trans hb1, _, hn1⟩
        · go_ret2
          have hc0 : c = 0 := by assumption
          have hj := (Num.join_acc acc k 0 HA.out hk9 (by omega) (by omega) (by omega)).1
          rw [HD.out, HD1.out, show 10 - k = (9 - k) + 1 by omega, Num.dec_last (by omega) (by omega) (by omega)]
          exact told_some (by rw [and0, hj, hc0]; simp) (by have := HQ.out; omega) (hbel.trans hb1) hn1
        · go_ret2
          have hc1 : 1 < c := by assumption
          rw [HD.out, HD1.out, show 10 - k = (9 - k) + 1 by omega, Num.dec_tenth hc1 (by omega)]
          exact ⟨rfl, hbel.trans hb1, _, hn1⟩
        · go_ret2
          have hj := (Num.join_acc acc k c HA.out hk9 (by omega) (by omega) (by omega)).1
          rw [HD.out, HD1.out, show 10 - k = (9 - k) + 1 by omega, Num.dec_last (by omega) (by omega) (by omega)]
          exact told_some (by rw [hj, Nat.mod_eq_of_lt (by omega)]) (by have := HQ.out; omega) (hbel.trans hb1) hn1
        · go_ret2
          have hj := (Num.join_acc acc k c HA.out hk9 (by omega) (by omega) (by omega)).1
          rw [HD.out, HD1.out, show 10 - k = (9 - k) + 1 by omega, Num.dec_last (by omega) (by omega) (by omega)]
          exact told_some (by rw [hj, Nat.mod_eq_of_lt (by omega)]) (by have := HQ.out; omega) (hbel.trans hb1) hn1
        · have hj := Num.join_acc acc k c HA.out hk9 (by omega) (by omega) (by omega)
          go_roundw
          case rel =>
            refine ⟨k + 1, acc + c.toNat % 128 * 128 ^ k, q + 1, by omega, by have := HQ.out; omega, by omega, by go_num, by rw [hj.1], hj.2, ?_, hbel.trans hb1, hn1⟩
            rw [HD.out, HD1.out, show 10 - k = (9 - k) + 1 by omega, Num.dec_more (by omega) (by omega) (by omega), show 10 - (k + 1) = 9 - k by omega]
          case measure => simp [intOf]; omega
      · rw [if_neg hlt] at h
        obtain ⟨rfl, rfl⟩ := h
        have hv : Num.dec (10 - k) k acc (zs.drop q) = none := by
          rw [List.drop_eq_nil_of_le (by have := HL.out; omega), Num.dec_nil]
        go_wp2_with fail
        go_ret2
        rw [HD.out, hv]
        exact ⟨rfl, hbel, _, HC.out⟩

end Go.Proofs.YtoghalmjbbkjhaaGreatDoor.Pk

namespace Go.Proofs.YtoghalmjbbkjhaaGreatDoor.Pk
open Go.RowKit

/-- what Take tells, of what stands there -/
def Took (w w' : World) (p : Nat) (e : Ending) : Option (Nat × Nat) → Prop
  | none => e = .returned (.tuple #[.int .u64 0, .int .i64 0, .int .i64 4]) ∧ Below w.heap.size w w'
  | some (n, k) => e = .returned (.tuple #[.int .u64 (n : Int), .int .i64 ((p : Int) + (k : Int)), .int .i64 0]) ∧ Below w.heap.size w w'

set_option maxRecDepth 100000 in
set_option maxHeartbeats 1000000 in
theorem take_any (a : Option Addr) (len cap p : Nat) (zs : List Int) (w : World) (hlies : Reads w a zs) (hz : len = zs.length) (hl : len ≤ 9223372036854775806) (hp : p ≤ len) :
    Calls Tryz.prog 53 #[.slice a len cap, .int .i64 (p : Int)] w fun e w' => Took w w' p e (Num.dec 10 0 0 (zs.drop p)) := by
  have HC := Lib.hid hlies
  have HZ := Lib.hid hz
  clear hlies hz
  go_enter Tryz.func53, Tryz.ntmps53
  go_wp2_with fail
  have e1 : ((w.alloc (.cells #[.slice a len cap] 32)).alloc (.cells #[.int .i64 (p : Int)] 3)).heap.size = w.heap.size + 2 := by simp
  have hbel : Below w.heap.size w ((w.alloc (.cells #[.slice a len cap] 32)).alloc (.cells #[.int .i64 (p : Int)] 3)) :=
    ((Below.refl _ _).alloc (Nat.le_refl _) _).alloc (by simp) _
  have hN : ((w.alloc (.cells #[.slice a len cap] 32)).alloc (.cells #[.int .i64 (p : Int)] 3)).heap[w.heap.size + 1]? = some (.cells #[.int .i64 (p : Int)] 3 (0, 0)) := by
    have := heap_alloc_new (w.alloc (.cells #[.slice a len cap] 32)) (.cells #[.int .i64 (p : Int)] 3)
    simpa using this
  have hS : ((w.alloc (.cells #[.slice a len cap] 32)).alloc (.cells #[.int .i64 (p : Int)] 3)).heap[w.heap.size]? = some (.cells #[.slice a len cap] 32 (0, 0)) :=
    (Below.heap_alloc _ _ _ (by simp)).trans (heap_alloc_new w _)
  have hsrc : Src ((w.alloc (.cells #[.slice a len cap] 32)).alloc (.cells #[.int .i64 (p : Int)] 3)) (w.heap.size + 1) w.heap.size a len cap zs :=
    ⟨cell_of_one hS, fun i hi => by
      obtain ⟨x, hx, hb, hc⟩ := HC.out.cell i (by rw [← HZ.out]; exact hi)
      exact ⟨x, hx, by omega, (hbel.cell (p := x.add i) (by rw [add_block]; exact hb)).trans hc⟩, by omega, HZ.out, hl⟩
  refine (number_any (w.heap.size + 1) w.heap.size a len cap p zs _ hsrc hN hp HC.out.hr).mono ?_
  intro e w1 ht
  clear hsrc hS hN HC
  obtain ⟨D, hD⟩ : ∃ D, D = Num.dec 10 0 0 (zs.drop p) := ⟨_, rfl⟩
  rw [← hD] at ht
  have HD := Lib.hid hD
  clear hD
  cases D with
  | none =>
    obtain ⟨rfl, hb1, q, hn1⟩ := ht
    have c1 := cell_of_one hn1
    have c2 := free_of_one hn1
    have d1 := cell_of_one (one_setCell (u := .int .i64 0) hn1)
    go_wp2_with fail
    refine bodyPost_ret (v := .tuple #[.int .u64 0, .int .i64 0, .int .i64 4]) (by simp [results, Tryz.results53, go_sem, d1]) rfl ?_
    rw [← HD.out]
    exact ⟨rfl, ((hbel.trans (hb1.mono (by omega)))).setCell (p := ⟨w.heap.size + 1, 0, none⟩) (by show _ ≤ w.heap.size + 1; omega) _⟩
  | some nk =>
    obtain ⟨n, k⟩ := nk
    obtain ⟨rfl, hb1, hn1⟩ := ht
    obtain ⟨q, hq⟩ : ∃ q : Int, q = ((p + k : Nat) : Int) := ⟨_, rfl⟩
    rw [← hq] at hn1
    have HQ := Lib.hid hq
    clear hq
    have c1 := cell_of_one hn1
    have c2 := free_of_one hn1
    go_wp2_with fail
    go_region
    go_wp2_with fail
    have d1 := cell_of_one (one_setCell (u := .int .i64 q) hn1)
    refine bodyPost_ret (v := .tuple #[.int .u64 n, .int .i64 q, .int .i64 0]) (by simp [results, Tryz.results53, go_sem, d1]) rfl ?_
    rw [← HD.out]
    exact ⟨by rw [HQ.out, Int.natCast_add], (((hbel.trans (hb1.mono (by omega)))).setCell (p := ⟨w.heap.size + 1, 0, none⟩) (by show _ ≤ w.heap.size + 1; omega) _).drew⟩


set_option maxRecDepth 100000 in
set_option maxHeartbeats 1000000 in
/-- a place outside the bytes -/
theorem take_out (a : Option Addr) (len cap : Nat) (p : Int) (w : World) (hp : p < 0 ∨ (len : Int) < p) :
    Calls Tryz.prog 53 #[.slice a len cap, .int .i64 p] w fun e w' => e = .returned (.tuple #[.int .u64 0, .int .i64 0, .int .i64 2]) ∧ Below w.heap.size w w' := by
  have HO := Lib.hid hp
  clear hp
  by_cases h1 : p < 0
  · go_enter Tryz.func53, Tryz.ntmps53
    go_wp2_with fail
    have d1 : ((w.alloc (.cells #[.slice a len cap] 32)).alloc (.cells #[.int .i64 0] 3)).cell? ⟨w.heap.size + 1, 0, none⟩ = some (.int .i64 0) := by simp
    exact bodyPost_ret (v := .tuple #[.int .u64 0, .int .i64 0, .int .i64 2]) (by simp [results, Tryz.results53, go_sem, d1]) rfl ⟨rfl, ((Below.refl _ _).alloc (Nat.le_refl _) _).alloc (by simp) _⟩
  · have h2 : (len : Int) < p := by have := HO.out; omega
    go_enter Tryz.func53, Tryz.ntmps53
    go_wp2_with fail
    have d1 : ((w.alloc (.cells #[.slice a len cap] 32)).alloc (.cells #[.int .i64 0] 3)).cell? ⟨w.heap.size + 1, 0, none⟩ = some (.int .i64 0) := by simp
    exact bodyPost_ret (v := .tuple #[.int .u64 0, .int .i64 0, .int .i64 2]) (by simp [results, Tryz.results53, go_sem, d1]) rfl ⟨rfl, ((Below.refl _ _).alloc (Nat.le_refl _) _).alloc (by simp) _⟩

/-- what TakeText tells, of the count that stands there -/
def TookText (w w' : World) (len p : Nat) (zs : List Int) (e : Ending) : Option (Nat × Nat) → Prop
  | none => e = .returned (.tuple #[.string ByteArray.empty, .int .i64 0, .int .i64 4]) ∧ Below w.heap.size w w'
  | some (n, k) => Below w.heap.size w w' ∧
      if n ≤ 4096 ∧ p + k + n ≤ len then e = .returned (.tuple #[.string (strOfNums ((zs.drop (p + k)).take n)), .int .i64 ((p : Int) + (k : Int) + (n : Int)), .int .i64 0])
      else e = .returned (.tuple #[.string ByteArray.empty, .int .i64 0, .int .i64 4])

set_option maxRecDepth 100000 in
set_option maxHeartbeats 1000000 in
theorem takeText_any (a : Option Addr) (len cap p : Nat) (zs : List Int) (w : World) (hlies : Reads w a zs) (hz : len = zs.length) (hl : len ≤ 9223372036854775806) (hp : p ≤ len) (hcap : len ≤ cap) (hcm : cap ≤ 9223372036854775807) :
    Calls Tryz.prog 55 #[.slice a len cap, .int .i64 (p : Int)] w fun e w' => TookText w w' len p zs e (Num.dec 10 0 0 (zs.drop p)) := by
  have hlt := fun n j h => Num.dec_lt 10 0 0 (zs.drop p) n j (by omega) (by simp) (fun x hx => hlies.hr x (List.mem_of_mem_drop hx)) h
  have HT := Lib.hid (take_any a len cap p zs w hlies hz hl hp)
  have HLT := Lib.hid hlt
  have HL := Lib.hid hlies
  have hzz := hz
  clear hlt hlies hz
  have hdl : (zs.drop p).length = len - p := by rw [List.length_drop]; omega
  rw [hdl] at HLT
  have HZ := Lib.hid hzz
  clear hzz hdl
  obtain ⟨D, hD⟩ : ∃ D, D = Num.dec 10 0 0 (zs.drop p) := ⟨_, rfl⟩
  rw [← hD] at HT HLT ⊢
  clear hD
  go_enter Tryz.func55, Tryz.ntmps55
  go_wp2_with fail
  refine HT.out.mono ?_
  intro e w1 ht
  clear HT
  cases D with
  | none =>
    obtain ⟨rfl, hb⟩ := ht
    go_wp2_with fail
    go_ret3
    exact ⟨rfl, hb⟩
  | some nk =>
    obtain ⟨n, k⟩ := nk
    obtain ⟨rfl, hb⟩ := ht
    obtain ⟨hn, hk0, hk⟩ := HLT.out n k rfl
    by_cases hbig : 4096 < n
    · go_wp2_with fail
      go_ret3
      exact ⟨hb, by rw [if_neg (by omega)]; rfl⟩
    · by_cases hfit : p + k + n ≤ len
      · have HP : Hid (n ≤ 4096 ∧ p + k + n ≤ len) := ⟨by omega, hfit⟩
        by_cases hc : cap = p + k
        · obtain rfl : n = 0 := by omega
          have hcv : ∀ c : Nat, (convert 32 9 (.slice a 0 c)).run Tryz.prog w1 = .ok (.string ByteArray.empty) w1 := fun c =>
            run_convert_bytes_zero w1 _ _ Tryz.underlying32 Tryz.underlying5 a c _ Tryz.underlying9
          go_wp2_with fail
          go_ret3
          exact ⟨hb, by rw [if_pos HP.out]; rfl⟩
        · have hcv : (convert 32 9 (.slice (Option.map (fun x => x.add (p + k)) a) n (cap - (p + k)))).run Tryz.prog w1 = .ok (.string (strOfNums ((zs.drop (p + k)).take n))) w1 :=
            (((HL.out.below hb).drop (p + k)).take n).text n _ (by have := HZ.out; rw [List.length_take, List.length_drop]; omega)
          go_wp2_with fail
          go_ret3
          exact ⟨hb, by rw [if_pos HP.out]; rfl⟩
      · go_wp2_with fail
        go_ret3
        exact ⟨hb, by rw [if_neg (by omega)]; rfl⟩

end Go.Proofs.YtoghalmjbbkjhaaGreatDoor.Pk
