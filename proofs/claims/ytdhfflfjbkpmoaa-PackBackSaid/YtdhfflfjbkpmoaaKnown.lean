/- The chapter's own rows: 'known' answers true. -/
import Derived.Test.YtdhfflfjbkpmoaaTakeMore
import Derived.Test.YtdhfflfjbkpmoaaPutInt
import Derived.Test.YtdhfflfjbkpmoaaPutText
namespace Go.Proofs.Ytdhfflfjbkpmoaa
open Go.RowKit

theorem lies_lit (w : World) (zs : List Int) (hl : zs.length ≤ 1000) (hr : ∀ x ∈ zs, 0 ≤ x ∧ x ≤ 255) : Lies (w.alloc (.cells (zs.map (Value.int .u8)).toArray 5)) w.heap.size 0 zs.length zs :=
  ⟨by simp, fun i hi => by
    rw [cell_of_row _ w.heap.size _ _ 5 (0, 0) (heap_alloc_new w _)]
    simp [List.getD, hi], rfl, by omega, hr⟩

/-- Take of a literal, from its head on -/
theorem take_lit (w : World) (zs : List Int) (hl : zs.length ≤ 1000) (hr : ∀ x ∈ zs, 0 ≤ x ∧ x ≤ 255) (cap : Nat) (D : Option (Nat × Nat)) (hD : Num.dec 10 0 0 zs = D) :
    Calls Try.prog 13 #[.slice (some ⟨w.heap.size, 0, none⟩) zs.length cap, .int .i64 0] (w.alloc (.cells (zs.map (Value.int .u8)).toArray 5)) fun e w' =>
      Took (w.alloc (.cells (zs.map (Value.int .u8)).toArray 5)) w' 0 e D := by
  have h := take_any w.heap.size 0 zs.length cap 0 zs _ (lies_lit w zs hl hr) (Nat.zero_le _)
  rw [List.drop_zero, hD] at h
  exact h

theorem take_300 (w : World) : Calls Try.prog 13 #[.slice (some ⟨w.heap.size, 0, none⟩) 2 2, .int .i64 0] (w.alloc (.cells #[.int .u8 172, .int .u8 2] 5)) fun e w' =>
    e = .returned (.tuple #[.int .u64 300, .int .i64 2, .int .i64 0]) ∧ Below w.heap.size w w' := by
  refine (take_lit w [172, 2] (by decide) (by decide) 2 (some (300, 2)) (by decide)).mono ?_
  rintro e w' ⟨rfl, hb⟩
  exact ⟨rfl, ((Below.refl _ _).alloc (Nat.le_refl _) _).trans (hb.mono (by simp))⟩

theorem take_80_00 (w : World) : Calls Try.prog 13 #[.slice (some ⟨w.heap.size, 0, none⟩) 2 2, .int .i64 0] (w.alloc (.cells #[.int .u8 128, .int .u8 0] 5)) fun e w' =>
    e = .returned (.tuple #[.int .u64 0, .int .i64 0, .int .i64 4]) ∧ Below w.heap.size w w' := by
  refine (take_lit w [128, 0] (by decide) (by decide) 2 none (by decide)).mono ?_
  rintro e w' ⟨rfl, hb⟩
  exact ⟨rfl, ((Below.refl _ _).alloc (Nat.le_refl _) _).trans (hb.mono (by simp))⟩

theorem take_80 (w : World) : Calls Try.prog 13 #[.slice (some ⟨w.heap.size, 0, none⟩) 1 1, .int .i64 0] (w.alloc (.cells #[.int .u8 128] 5)) fun e w' =>
    e = .returned (.tuple #[.int .u64 0, .int .i64 0, .int .i64 4]) ∧ Below w.heap.size w w' := by
  refine (take_lit w [128] (by decide) (by decide) 1 none (by decide)).mono ?_
  rintro e w' ⟨rfl, hb⟩
  exact ⟨rfl, ((Below.refl _ _).alloc (Nat.le_refl _) _).trans (hb.mono (by simp))⟩

/-- a row that is made text at once, or later -/
def Text (w : World) (v : Value) (s : ByteArray) : Prop := ∀ w', Below w.heap.size w w' → (convert 24 9 v).run Try.prog w' = .ok (.string s) w'

theorem put_text (n : Nat) (hn : n < 18446744073709551616) (s : ByteArray) (hs : strOfNums (Num.put n) = s) (w : World) :
    Calls Try.prog 8 #[.int .u64 (n : Int)] w fun e w' => ∃ v, e = .returned v ∧ Text w' v s ∧ Below w.heap.size w w' := by
  refine (put_any n hn w).mono ?_
  rintro e w' ⟨v, rfl, hr, hb⟩
  subst hs
  exact ⟨v, rfl, fun w2 h2 => hr.text h2, hb⟩

theorem refPut_text (n : Nat) (hn : n < 18446744073709551616) (w : World) :
    Calls Try.prog 9 #[.int .u64 (n : Int)] w fun e w' => ∃ v, e = .returned v ∧ Text w' v (strOfNums (Num.put n)) ∧ Below w.heap.size w w' := by
  refine (refPut_any 9 n w (by omega) (Nat.lt_of_lt_of_le hn (by decide)) hn).mono ?_
  rintro e w' ⟨v, rfl, hr, hb⟩
  exact ⟨v, rfl, fun w2 h2 => hr.text h2, hb⟩

theorem refPutInt_text (m : Int) (h0 : -9223372036854775808 ≤ m) (h1 : m ≤ 9223372036854775807) (w : World) :
    Calls Try.prog 11 #[.int .i64 m] w fun e w' => ∃ v, e = .returned v ∧ Text w' v (strOfNums (Num.put (Num.zig m))) ∧ Below w.heap.size w w' := by
  refine (refPutInt_any m h0 h1 w).mono ?_
  rintro e w' ⟨v, rfl, hr, hb⟩
  exact ⟨v, rfl, fun w2 h2 => hr.text h2, hb⟩

theorem putInt_text (m : Int) (h0 : -9223372036854775808 ≤ m) (h1 : m ≤ 9223372036854775807) (s : ByteArray) (hs : strOfNums (Num.put (Num.zig m)) = s) (w : World) :
    Calls Try.prog 10 #[.int .i64 m] w fun e w' => ∃ v, e = .returned v ∧ Text w' v s ∧ Below w.heap.size w w' := by
  refine (putInt_any m h0 h1 w).mono ?_
  rintro e w' ⟨v, rfl, hr, hb⟩
  subst hs
  exact ⟨v, rfl, fun w2 h2 => hr.text h2, hb⟩

theorem putText_text (t : ByteArray) (ht : t.size ≤ 4096) (s : ByteArray) (hs : strOfNums (Num.put t.size ++ bl t) = s) (w : World) :
    Calls Try.prog 6 #[.string t] w fun e w' => ∃ v, e = .returned (.tuple #[v, .int .i64 0]) ∧ Text w' v s ∧ Below w.heap.size w w' := by
  refine (putText_any t ht w).mono ?_
  rintro e w' ⟨v, rfl, hr, hb⟩
  subst hs
  exact ⟨v, rfl, fun w2 h2 => hr.text h2, hb⟩

set_option maxRecDepth 100000 in
set_option maxHeartbeats 1000000 in
theorem known_any (w : World) : Calls Try.prog 5 #[] w fun e w' => e = .returned (.bool true) ∧ Below w.heap.size w w' := by
  go_enter Try.func5, Try.ntmps5
  go_wp2_with fail
  refine (take_300 _).mono ?_
  rintro e w1 ⟨rfl, hb1⟩
  go_wp2_with fail
  refine (take_80_00 _).mono ?_
  rintro e w2 ⟨rfl, hb2⟩
  have b2 := hb1.trans (hb2.mono hb1.size)
  clear hb1 hb2
  go_wp2_with fail
  refine (take_80 _).mono ?_
  rintro e w3 ⟨rfl, hb3⟩
  have b3 := b2.trans (hb3.mono b2.size)
  clear b2 hb3
  go_wp2_with fail
  refine (putText_text ⟨#[97, 98]⟩ (by decide) ⟨#[2, 97, 98]⟩ (by decide) _).mono ?_
  rintro e w4 ⟨v4, rfl, ht4, hb4⟩
  have b4 := b3.trans (hb4.mono b3.size)
  clear b3 hb4
  have HT4 := Lib.hid ht4
  clear ht4
  go_wp2_with fail
  refine (put_text 0 (by decide) ⟨#[0]⟩ (by decide) _).mono ?_
  rintro e w5 ⟨v5, rfl, ht5, hb5⟩
  have b5 := b4.trans (hb5.mono b4.size)
  have c45 := hb5
  clear b4 hb5
  have hcv5 := ht5 w5 (Below.refl _ _)
  clear ht5
  go_wp2_with fail
  clear hcv5
  refine (put_text 300 (by decide) ⟨#[172, 2]⟩ (by decide) _).mono ?_
  rintro e w6 ⟨v6, rfl, ht6, hb6⟩
  have b6 := b5.trans (hb6.mono b5.size)
  have c46 := c45.trans (hb6.mono c45.size)
  clear b5 hb6 c45
  have hcv6 := ht6 w6 (Below.refl _ _)
  clear ht6
  go_wp2_with fail
  clear hcv6
  refine (putInt_text (-1) (by decide) (by decide) ⟨#[1]⟩ (by decide) _).mono ?_
  rintro e w7 ⟨v7, rfl, ht7, hb7⟩
  have b7 := b6.trans (hb7.mono b6.size)
  have c47 := c46.trans (hb7.mono c46.size)
  clear b6 hb7 c46
  have hcv7 := ht7 w7 (Below.refl _ _)
  clear ht7
  go_wp2_with fail
  clear hcv7
  refine (putInt_text 1 (by decide) (by decide) ⟨#[2]⟩ (by decide) _).mono ?_
  rintro e w8 ⟨v8, rfl, ht8, hb8⟩
  have b8 := b7.trans (hb8.mono b7.size)
  have c48 := c47.trans (hb8.mono c47.size)
  clear b7 hb8 c47
  have hcv8 := ht8 w8 (Below.refl _ _)
  have hcv4 := HT4.out w8 c48
  clear ht8 HT4
  go_wp2_with fail
  go_ret
  exact ⟨rfl, b8⟩

end Go.Proofs.Ytdhfflfjbkpmoaa
