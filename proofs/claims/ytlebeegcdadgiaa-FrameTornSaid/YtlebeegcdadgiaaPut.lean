/- pack.Put, by its contract: the bytes of a number, in a row of the call's own. -/
import Derived.Test.YtlebeegcdadgiaaRow
namespace Go.Proofs.Ytlebeegcdadgiaa
open Go.RowKit

set_option maxRecDepth 100000 in
set_option maxHeartbeats 400000 in
theorem put_any (n : Nat) (hn : n < 18446744073709551616) (w : World) :
    Calls Try.prog 26 #[.int .u64 (n : Int)] w fun e w' => ∃ v, e = .returned v ∧ Row w' w.heap.size (Num.put n) v ∧ Below w.heap.size w w' := by
  obtain ⟨i0, hi, hz0, hz1, hz2⟩ := info_parts info5
  go_enter Try.func26, Try.ntmps26
  go_wp2
  go_loopw [0, 3] (fun x v wr => ∃ (k : Nat) (pre : List Int), k ≤ 9 ∧ x = .int .u64 ((n / 128 ^ k : Nat) : Int) ∧ pre.length = k ∧ Num.put n = pre ++ Num.enc (9 - k) (n / 128 ^ k) ∧
      wr.ownsRow w.heap.size 5 1 v pre.length (pre.map (Value.int .u8)) ∧ Below w.heap.size w wr)
    (fun x _ _ => (intOf x).toNat)
  case atStart => exact ⟨0, [], by omega, by simp, rfl, by simp [Num.put], World.ownsRow_nil _ _ _ _, Below.refl _ _⟩
  case round =>
    obtain ⟨k, pre, hk, rfl, hpl, hput, hown, hbel⟩ := hrel
    have HP := Lib.hid hput
    have HL := Lib.hid hpl
    clear hput hpl
    have hlt : n / 128 ^ k < 18446744073709551616 := Nat.lt_of_le_of_lt (Nat.div_le_self _ _) hn
    obtain ⟨q, hq⟩ : ∃ q, q = n / 128 ^ k := ⟨_, rfl⟩
    rw [← hq] at hlt
    rw [← hq]
    have HQ := Lib.hid hq
    clear hq
    have HN := Lib.hid hn
    clear hn
    have HT := Lib.hid hlt
    clear hlt
    by_cases hb : q < 128
    · go_wp2_with (at_builtin; refine wpList_append_own _ rfl _ _ 22 rfl w.heap.size 5 i0 (.int .u8 0) 1 1 Try.underlying22 hi hz0 hz1 hz2 rfl (by decide) _ _ _ rfl (hown.alloc _) ⟨wr.heap.size, 0, none⟩ 1 1 [.int .u8 (q : Int)] rfl rfl (one_new _ _ _) (ints_oneCell .u8 [(q : Int)]) (by have := HL.out; unfold maxLen; omega) (by have := HL.out; omega) (by have := hbel.size; simp; omega) ?_)
      intro v' w1 hown1 hg1 _
      go_wp2
      go_ret
      have hq : Num.put n = pre ++ [(q : Int)] := by rw [HP.out, ← HQ.out, Num.enc_small _ _ hb]
      refine ⟨_, rfl, ?_, ?_⟩
      · rw [hq]; simpa [Row] using hown1
      · exact (hbel.alloc hbel.size _).grown hg1 (by have := hbel.size; simp; omega) (fun k hk => (hown.lt k hk).1)
    · have ha := Num.and127 q (by have := HT.out; omega)
      have ho := Num.or128 q
      go_wp2_with (at_builtin; refine wpList_append_own _ rfl _ _ 22 rfl w.heap.size 5 i0 (.int .u8 0) 1 1 Try.underlying22 hi hz0 hz1 hz2 rfl (by decide) _ _ _ rfl (hown.alloc _) ⟨wr.heap.size, 0, none⟩ 1 1 [.int .u8 ((q : Int) % 128 + 128)] rfl rfl (one_new _ _ _) (ints_oneCell .u8 [(q : Int) % 128 + 128]) (by have := HL.out; unfold maxLen; omega) (by have := HL.out; omega) (by have := hbel.size; simp; omega) ?_)
      intro v' w1 hown1 hg1 _
      have hbel1 := (hbel.alloc hbel.size (.cells #[.int .u8 ((q : Int) % 128 + 128)] 5)).grown hg1 (by have := hbel.size; simp; omega) (fun k hk => (hown.lt k hk).1)
      have h9 : k < 9 := by
        rcases Nat.lt_or_ge k 9 with h | h
        · exact h
        · exact absurd (Num.top_small n k h (HN.out)) (by rw [← HQ.out]; exact hb)
      clear ha ho hown hg1 hbel
      go_wp2
      go_roundw
      case rel =>
        refine ⟨k + 1, pre ++ [(q : Int) % 128 + 128], by omega, ?_, by rw [List.length_append, HL.out]; rfl, ?_, by simpa using hown1, hbel1⟩
        · rw [Nat.pow_succ, ← Nat.div_div_eq_div_mul, ← HQ.out]; first | rfl | go_num
        · rw [HP.out, ← HQ.out, Nat.pow_succ, ← Nat.div_div_eq_div_mul, ← HQ.out, show 9 - k = (9 - (k + 1)) + 1 by omega, Num.enc_big _ _ hb]
          simp
      case measure => simp [intOf]; omega

set_option maxRecDepth 100000 in
set_option maxHeartbeats 400000 in
/-- the reference's Put: it calls itself -/
theorem refPut_any (f : Nat) : ∀ (n : Nat) (w : World), f ≤ 9 → n < 128 ^ (f + 1) → n < 18446744073709551616 →
    Calls Try.prog 29 #[.int .u64 (n : Int)] w fun e w' => ∃ v, e = .returned v ∧ Row w' w.heap.size (Num.enc f n) v ∧ Below w.heap.size w w' := by
  obtain ⟨i0, hi, hz0, hz1, hz2⟩ := info_parts info5
  induction f with
  | zero =>
    intro n w _ hn _
    have hb : n < 128 := by simpa using hn
    rw [Num.enc_small _ _ hb]
    go_enter Try.func29, Try.ntmps29
    go_wp2_with fail
    go_ret
    exact ⟨_, rfl, Row.lit1 _ _, (Below.refl _ _).alloc (Nat.le_refl _) _⟩
  | succ f ih =>
    intro n w hf hn h64
    by_cases hb : n < 128
    · clear hn h64 ih hf
      rw [Num.enc_small _ _ hb]
      go_enter Try.func29, Try.ntmps29
      go_wp2_with fail
      go_ret
      exact ⟨_, rfl, Row.lit1 _ _, (Below.refl _ _).alloc (Nat.le_refl _) _⟩
    · have hd : n / 128 < 128 ^ (f + 1) := by rw [Nat.pow_succ] at hn; exact Nat.div_lt_of_lt_mul (by rw [Nat.mul_comm]; exact hn)
      have IH := Lib.hid (ih (n / 128) (w.alloc (.cells #[.int .u8 ((n : Int) % 128 + 128)] 5)) (by omega) hd (by omega))
      have HW := Lib.hid (Num.wrap_div n h64)
      rw [Num.enc_big _ _ hb]
      clear ih hd hn h64
      go_enter Try.func29, Try.ntmps29
      go_wp2_with fail
      rw [HW.out]
      refine IH.out.mono ?_
      rintro e w1 ⟨v, rfl, hr, hbl⟩
      obtain ⟨g, cap, hv, hg, hg', hc1, hc2, hcell⟩ := hr.is (Num.enc_ne _ _)
      subst hv
      have hlen := Num.enc_len f (n / 128)
      have hlit := (Row.lit1 w ((n : Int) % 128 + 128)).below hbl
      have hsz := hbl.size
      generalize HE : Num.enc f (n / 128) = zs at *
      have HQ := Lib.hid HE
      clear IH HE HW hcell hc1 hc2
      go_wp2_with (at_builtin; go_loud (refine wpList_append_own _ rfl _ _ 22 rfl w.heap.size 5 i0 (.int .u8 0) 1 1 Try.underlying22 hi hz0 hz1 hz2 rfl (by decide) _ _ _ rfl hlit ⟨g, 0, none⟩ zs.length cap (zs.map (Value.int .u8)) rfl (by simp) (hr.news (Below.refl _ _) rfl) (ints_oneCell .u8 zs) (by unfold maxLen; simp only [List.length_cons, List.length_nil]; omega) (by simp only [List.length_cons, List.length_nil]; omega) (by simp at hsz; omega) ?_))
      intro v' w2 hown2 hg2 _
      go_wp2
      go_ret
      refine ⟨_, rfl, ?_, ?_⟩
      · rw [HQ.out]
        have e : 1 + zs.length = (((n % 128 + 128 : Nat) : Int) :: zs).length := by simp [Nat.add_comm]
        rw [e] at hown2
        exact hown2
      · exact (((Below.refl _ _).alloc (Nat.le_refl _) _).trans (hbl.mono (by simp))).grown hg2 (by simp at hsz; omega) (fun k hk => by simp [Value.ownBlock] at hk; omega)

end Go.Proofs.Ytlebeegcdadgiaa
