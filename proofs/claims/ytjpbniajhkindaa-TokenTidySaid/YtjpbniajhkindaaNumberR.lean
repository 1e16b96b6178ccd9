/- pack.Take's closure and pack.number, by their contracts, over any slice of bytes. -/
import Derived.Test.YtjpbniajhkindaaNum
import Derived.Test.YtjpbniajhkindaaTxA
import Derived.OneCell
namespace Go.Proofs.Ytjpbniajhkindaa
open Go.RowKit

/-- the closure's two captured cells: the place that is next (block N), and the slice (block S), whose bytes are read at a -/
structure Src (w : World) (N S : Nat) (a : Option Addr) (len cap : Nat) (zs : List Int) : Prop where
  sl : w.cell? ⟨S, 0, none⟩ = some (.slice a len cap)
  cell : ∀ i, i < len → ∃ x, a = some x ∧ x.block < N ∧ w.cell? (x.add i) = some (.int .u8 (zs.getD i 0))
  SN : S < N
  hz : len = zs.length
  hl : len ≤ 9223372036854775806

theorem Src.below {w w' : World} {N S : Nat} {a : Option Addr} {len cap : Nat} {zs : List Int} (h : Src w N S a len cap zs) (hb : Below N w w') : Src w' N S a len cap zs :=
  ⟨(hb.cell (p := ⟨S, 0, none⟩) h.SN).trans h.sl, fun i hi => by
    obtain ⟨x, hx, hN, hc⟩ := h.cell i hi
    exact ⟨x, hx, hN, (hb.cell (p := x.add i) (by rw [add_block]; exact hN)).trans hc⟩, h.SN, h.hz, h.hl⟩

theorem take1_end (N S : Nat) (a : Option Addr) (len cap : Nat) (zs : List Int) (w : World) (hs : Src w N S a len cap zs) (hn : w.heap[N]? = some (.cells #[.int .i64 (len : Int)] 3 (0, 0))) :
    Calls Try.prog 57 #[.pointer (some ⟨N, 0, none⟩), .pointer (some ⟨S, 0, none⟩)] w fun e w' => e = .returned (.tuple #[.int .u8 0, .bool false]) ∧ w = w' := by
  have c1 := cell_of_one hn
  have c2 := hs.sl
  clear hs hn
  go_enter Try.func57, Try.ntmps57
  go_wp2
  go_ret2
  exact ⟨rfl, rfl⟩

theorem take1_more (N S : Nat) (a : Option Addr) (len cap p : Nat) (zs : List Int) (w : World) (hs : Src w N S a len cap zs) (hn : w.heap[N]? = some (.cells #[.int .i64 (p : Int)] 3 (0, 0))) (hp : p < len) :
    Calls Try.prog 57 #[.pointer (some ⟨N, 0, none⟩), .pointer (some ⟨S, 0, none⟩)] w fun e w' => e = .returned (.tuple #[.int .u8 (zs.getD p 0), .bool true]) ∧ w' = w.setCell ⟨N, 0, none⟩ (.int .i64 ((p + 1 : Nat) : Int)) := by
  have c1 := cell_of_one hn
  have c2 := hs.sl
  have c3 := free_of_one hn
  obtain ⟨x, rfl, c6, c4⟩ := hs.cell p hp
  have c5 := hs.SN
  have c7 := hs.hl
  have d1 : (w.setCell ⟨N, 0, none⟩ (.int .i64 ((p : Int) + 1))).cell? ⟨N, 0, none⟩ = some (.int .i64 ((p : Int) + 1)) := cell_of_one (one_setCell hn)
  have d2 : (w.setCell ⟨N, 0, none⟩ (.int .i64 ((p : Int) + 1))).cell? (x.add p) = some (.int .u8 (zs.getD p 0)) := (((Below.refl N w).setCell (p := ⟨N, 0, none⟩) (Nat.le_refl _) _).cell (p := x.add p) (by rw [add_block]; exact c6)).trans c4
  clear hs hn
  go_enter Try.func57, Try.ntmps57
  go_wp2
  go_ret2
  exact ⟨by simp [List.getD], by simp⟩

/-- one round of 'number' calls the closure: what it tells -/
theorem take1_any (N S : Nat) (a : Option Addr) (len cap p : Nat) (zs : List Int) (w : World) (hs : Src w N S a len cap zs) (hn : w.heap[N]? = some (.cells #[.int .i64 (p : Int)] 3 (0, 0))) (hp : p ≤ len) :
    Calls Try.prog 57 #[.pointer (some ⟨N, 0, none⟩), .pointer (some ⟨S, 0, none⟩)] w fun e w' =>
      if p < len then e = .returned (.tuple #[.int .u8 (zs.getD p 0), .bool true]) ∧ Below N w w' ∧ w'.heap[N]? = some (.cells #[.int .i64 ((p + 1 : Nat) : Int)] 3 (0, 0))
      else e = .returned (.tuple #[.int .u8 0, .bool false]) ∧ w = w' := by
  by_cases h : p < len
  · refine (take1_more N S a len cap p zs w hs hn h).mono ?_
    rintro e w' ⟨he, rfl⟩
    rw [if_pos h]
    exact ⟨he, (Below.refl N w).setCell (p := ⟨N, 0, none⟩) (Nat.le_refl _) _, one_setCell hn⟩
  · obtain rfl : p = len := by omega
    refine (take1_end N S a p cap zs w hs hn).mono ?_
    rintro e w' ⟨he, hw⟩
    rw [if_neg h]
    exact ⟨he, hw⟩

/-- what 'number' tells -/
def Told (w w' : World) (N at0 : Nat) (e : Ending) : Option (Nat × Nat) → Prop
  | none => e = .returned (.tuple #[.int .u64 0, .bool false]) ∧ Below N w w' ∧ ∃ q : Nat, w'.heap[N]? = some (.cells #[.int .i64 (q : Int)] 3 (0, 0))
  | some (n, k) => e = .returned (.tuple #[.int .u64 (n : Int), .bool true]) ∧ Below N w w' ∧ w'.heap[N]? = some (.cells #[.int .i64 ((at0 + k : Nat) : Int)] 3 (0, 0))

theorem told_some {w w1 : World} {N p v k q : Nat} {X : Int} (hX : X = (v : Int)) (hq : q = p + k) (hb : Below N w w1) (hn : w1.heap[N]? = some (.cells #[.int .i64 (q : Int)] 3 (0, 0))) :
    Told w w1 N p (.returned (.tuple #[.int .u64 X, .bool true])) (some (v, k)) := by
  subst hX hq
  exact ⟨rfl, hb, hn⟩
theorem and0 : IntKind.u64.wrap (bits .and .u8 0 127) = 0 % 128 := by rw [u8_and127 0 (by decide) (by decide)]; decide

set_option maxRecDepth 100000 in
set_option maxHeartbeats 1000000 in
theorem number_any (N S : Nat) (a : Option Addr) (len cap p : Nat) (zs : List Int) (w : World) (hs : Src w N S a len cap zs) (hn : w.heap[N]? = some (.cells #[.int .i64 (p : Int)] 3 (0, 0))) (hp : p ≤ len)
    (hr : ∀ x ∈ zs, 0 ≤ x ∧ x ≤ 255) :
    Calls Try.prog 56 #[.func (.func 57) #[] #[.pointer (some ⟨N, 0, none⟩), .pointer (some ⟨S, 0, none⟩)]] w fun e w' => Told w w' N p e (Num.dec 10 0 0 (zs.drop p)) := by
  have HS := Lib.hid hs
  have HN := Lib.hid hn
  have HR := Lib.hid hr
  have hlen := hs.hl
  have hzl := hs.hz
  have HL := Lib.hid hzl
  clear hs hn hr hzl
  go_enter Try.func56, Try.ntmps56
  go_wp2
  go_loopw [4, 5] (fun x sh wr => ∃ (k acc q : Nat), k ≤ 10 ∧ q = p + k ∧ q ≤ len ∧ sh = .int .i64 ((7 * k : Nat) : Int) ∧ x = .int .u64 (acc : Int) ∧ acc < 128 ^ k ∧
      Num.dec 10 0 0 (zs.drop p) = Num.dec (10 - k) k acc (zs.drop q) ∧ Below N w wr ∧ wr.heap[N]? = some (.cells #[.int .i64 (q : Int)] 3 (0, 0)))
    (fun _ sh _ => 70 - (intOf sh).toNat)
  case atStart => exact ⟨0, 0, p, by omega, by omega, hp, rfl, rfl, by simp, rfl, Below.refl _ _, HN.out⟩
  case round =>
    obtain ⟨k, acc, q, hk, hq, hql, rfl, rfl, hacc, hdec, hbel, hcell⟩ := hrel
    have HQ := Lib.hid hq
    have HD := Lib.hid hdec
    have HC := Lib.hid hcell
    have HA := Lib.hid hacc
    clear hq hdec hcell hacc
    by_cases h10 : k = 10
    · subst h10
      go_wp2_with fail
      go_ret2
      rw [HD.out]
      exact ⟨rfl, hbel, _, HC.out⟩
    · have hk9 : k ≤ 9 := by omega
      clear hk h10
      go_wp2_with fail
      refine (take1_any N S a len cap q zs wr (HS.out.below hbel) HC.out hql).mono ?_
      intro e w1 h
      by_cases hlt : q < len
      · rw [if_pos hlt] at h
        obtain ⟨rfl, hb1, hn1⟩ := h
        have hz : q < zs.length := by have := HL.out; omega
        have hdrop : zs.drop q = zs.getD q 0 :: zs.drop (q + 1) := by rw [List.drop_eq_getElem_cons hz]; simp [List.getD, List.getElem?_eq_getElem hz]
        have hrange := HR.out (zs.getD q 0) (by simp [List.getD, List.getElem?_eq_getElem hz])
        obtain ⟨c, hc⟩ : ∃ c, c = zs.getD q 0 := ⟨_, rfl⟩
        rw [← hc] at hdrop hrange
        rw [← hc]
        have HD1 := Lib.hid hdrop
        clear hc hdrop hz
        have hand : bits .and .u8 c 127 = c % 128 := u8_and127 c hrange.1 (by omega)
        go_wp2_with fail
        · go_ret2
          have hc0 : c = 0 := by assumption
          rw [HD.out, HD1.out, show 10 - k = (9 - k) + 1 by omega, Num.dec_zero hc0 (by omega)]
          exact ⟨rfl, hbel.trans hb1, _, hn1⟩
        · go_ret2
          have hc0 : c = 0 := by assumption
          have hj := (Num.join_acc acc k 0 HA.out hk9 (by omega) (by omega) (by omega)).1
          rw [HD.out, HD1.out, show 10 - k = (9 - k) + 1 by omega, Num.dec_last (by omega) (by omega) (by omega)]
          exact told_some (by rw [and0, hj, hc0]; simp) (by have := HQ.out; omega) (hbel.trans hb1) hn1
        · go_ret2
          have hc1 : 1 < c := by assumption
          rw [HD.out, HD1.out, show 10 - k = (9 - k) + 1 by omega, Num.dec_tenth hc1 (by omega)]
          exact ⟨rfl, hbel.trans hb1, _, hn1⟩
        · go_ret2
          have hj := (Num.join_acc acc k c HA.out hk9 (by omega) (by omega) (by omega)).1
          rw [HD.out, HD1.out, show 10 - k = (9 - k) + 1 by omega, Num.dec_last (by omega) (by omega) (by omega)]
          exact told_some (by rw [hj, Nat.mod_eq_of_lt (by omega)]) (by have := HQ.out; omega) (hbel.trans hb1) hn1
        · go_ret2
          have hj := (Num.join_acc acc k c HA.out hk9 (by omega) (by omega) (by omega)).1
          rw [HD.out, HD1.out, show 10 - k = (9 - k) + 1 by omega, Num.dec_last (by omega) (by omega) (by omega)]
          exact told_some (by rw [hj, Nat.mod_eq_of_lt (by omega)]) (by have := HQ.out; omega) (hbel.trans hb1) hn1
        · have hj := Num.join_acc acc k c HA.out hk9 (by omega) (by omega) (by omega)
          go_roundw
          case rel =>
            refine ⟨k + 1, acc + c.toNat % 128 * 128 ^ k, q + 1, by omega, by have := HQ.out; omega, by omega, by go_num, by rw [hj.1], hj.2, ?_, hbel.trans hb1, hn1⟩
            rw [HD.out, HD1.out, show 10 - k = (9 - k) + 1 by omega, Num.dec_more (by omega) (by omega) (by omega), show 10 - (k + 1) = 9 - k by omega]
          case measure => simp [intOf]; omega
      · rw [if_neg hlt] at h
        obtain ⟨rfl, rfl⟩ := h
        have hv : Num.dec (10 - k) k acc (zs.drop q) = none := by
          rw [List.drop_eq_nil_of_le (by have := HL.out; omega), Num.dec_nil]
        go_wp2_with fail
        go_ret2
        rw [HD.out, hv]
        exact ⟨rfl, hbel, _, HC.out⟩

end Go.Proofs.Ytjpbniajhkindaa
