/- The law PackBack: its walk. -/
import Derived.Test.YtdhfflfjbkpmoaaBack
namespace Go.Proofs.Ytdhfflfjbkpmoaa
open Go.RowKit

/-- what the three takes tell, of bytes that are cut at q (not cut: q is their number) -/
theorem take_cut (W : World) (g N q p n : Nat) (zs rest : List Int) (hl : Lies W g 0 N zs) (hq : q ≤ N) (hd : zs.drop p = Num.put n ++ rest) (hn : n < 18446744073709551616) :
    Lies W g 0 q (zs.take q) ∧ Num.dec 10 0 0 ((zs.take q).drop p) = if q < p + (Num.put n).length then none else some (n, (Num.put n).length) := by
  refine ⟨⟨hl.lt, fun i hi => ?_, ?_, ?_, fun x hx => hl.hr x (List.mem_of_mem_take hx)⟩, dec_short zs n p q rest hd hn⟩
  · rw [hl.cell i (by omega)]
    simp [List.getD, List.getElem?_take_of_lt hi]
  · have := hl.hz; rw [List.length_take]; omega
  · have := hl.hl; omega

theorem take_is (W : World) (g c N q p n i : Nat) (zs rest : List Int) (hl : Lies W g 0 N zs) (hq : q ≤ N) (hp : p ≤ q) (hd : zs.drop p = Num.put n ++ rest) (hn : n < 18446744073709551616) (hi : i = p + (Num.put n).length) :
    Calls Try.prog 13 #[.slice (some ⟨g, 0, none⟩) q c, .int .i64 (p : Int)] W fun e w' =>
      (e = if q < i then .returned (.tuple #[.int .u64 0, .int .i64 0, .int .i64 4]) else .returned (.tuple #[.int .u64 (n : Int), .int .i64 (i : Int), .int .i64 0])) ∧ Below W.heap.size W w' := by
  have h := take_cut W g N q p n zs rest hl hq hd hn
  subst hi
  refine (take_any g 0 q c p _ W h.1 hp).mono ?_
  rw [h.2]
  intro e w' ht
  by_cases hc : q < p + (Num.put n).length
  · rw [if_pos hc] at ht ⊢
    exact ht
  · rw [if_neg hc] at ht ⊢
    exact ⟨ht.1, ht.2⟩

theorem takeInt_is (W : World) (g c N q p j : Nat) (m : Int) (zs rest : List Int) (hl : Lies W g 0 N zs) (hq : q ≤ N) (hp : p ≤ q) (hd : zs.drop p = Num.put (Num.zig m) ++ rest) (h0 : -9223372036854775808 ≤ m) (h1 : m ≤ 9223372036854775807)
    (hj : j = p + (Num.put (Num.zig m)).length) :
    Calls Try.prog 14 #[.slice (some ⟨g, 0, none⟩) q c, .int .i64 (p : Int)] W fun e w' =>
      (e = if q < j then .returned (.tuple #[.int .i64 0, .int .i64 0, .int .i64 4]) else .returned (.tuple #[.int .i64 m, .int .i64 (j : Int), .int .i64 0])) ∧ Below W.heap.size W w' := by
  have h := take_cut W g N q p (Num.zig m) zs rest hl hq hd (Num.zig_lt h0 h1)
  subst hj
  refine (takeInt_any g 0 q c p _ W h.1 hp).mono ?_
  rw [h.2]
  intro e w' ht
  by_cases hc : q < p + (Num.put (Num.zig m)).length
  · rw [if_pos hc] at ht ⊢
    exact ht
  · rw [if_neg hc] at ht ⊢
    refine ⟨?_, ht.2⟩
    rw [ht.1, Num.unzig_zig]
    rfl

theorem takeText_is (W : World) (g c N q p k : Nat) (s : ByteArray) (zs rest : List Int) (hl : Lies W g 0 N zs) (hq : q ≤ N) (hp : p ≤ q) (hd : zs.drop p = Num.put s.size ++ (bl s ++ rest)) (hs : s.size ≤ 100) (hN : N ≤ c) (hc : c ≤ maxLen)
    (hk : k = p + (Num.put s.size).length + s.size) :
    Calls Try.prog 15 #[.slice (some ⟨g, 0, none⟩) q c, .int .i64 (p : Int)] W fun e w' =>
      (e = if q < k then .returned (.tuple #[.string ByteArray.empty, .int .i64 0, .int .i64 4]) else .returned (.tuple #[.string s, .int .i64 (k : Int), .int .i64 0])) ∧ Below W.heap.size W w' := by
  have h := take_cut W g N q p s.size zs (bl s ++ rest) hl hq hd (by omega)
  subst hk
  refine (takeText_any g 0 q c p _ W h.1 hp (by omega) hc).mono ?_
  rw [h.2]
  intro e w' ht
  by_cases hc1 : q < p + (Num.put s.size).length
  · rw [if_pos hc1] at ht
    rw [if_pos (by omega)]
    exact ht
  · rw [if_neg hc1] at ht
    obtain ⟨hb, ht⟩ := ht
    by_cases hc2 : q < p + (Num.put s.size).length + s.size
    · rw [if_neg (by omega)] at ht
      rw [if_pos hc2]
      exact ⟨ht, hb⟩
    · rw [if_pos (by omega)] at ht
      rw [if_neg hc2]
      refine ⟨?_, hb⟩
      have e1 : ((zs.take q).drop (p + (Num.put s.size).length)).take s.size = bl s := by
        rw [List.drop_take, ← List.drop_drop, hd, List.drop_left, List.take_take, Nat.min_eq_left (by omega)]
        rw [← bl_len s, List.take_left]
      rw [ht, e1, str_bl]
      rfl

set_option maxRecDepth 100000 in
set_option maxHeartbeats 2000000 in
theorem back_any (n : Nat) (hn : n < 18446744073709551616) (m : Int) (h0 : -9223372036854775808 ≤ m) (h1 : m ≤ 9223372036854775807) (s : ByteArray) (hs : s.size ≤ 100)
    (a3 a4 : Option Addr) (z3 z4 : List Int) (c3 c4 : Nat) (hz3 : z3.length ≤ 100) (hz4 : z4.length ≤ 100) (w : World) (p3 : Part w a3 z3 c3) (p4 : Part w a4 z4 c4) (r3 : ∀ x ∈ z3, 0 ≤ x ∧ x ≤ 255) (r4 : ∀ x ∈ z4, 0 ≤ x ∧ x ≤ 255)
    (q : Int) (hq0 : -9223372036854775808 ≤ q) (hq1 : q ≤ 9223372036854775807) :
    Calls Try.prog 4 #[.int .u64 (n : Int), .int .i64 m, .string s, .slice a3 z3.length c3, .slice a4 z4.length c4, .int .i64 q] w fun e w' => e = .returned (.bool true) ∧ Below w.heap.size w w' := by
  have HN := Lib.hid hn
  have P3 := Lib.hid p3
  have P4 := Lib.hid p4
  have HR := Lib.hid (all5_range z3 n m s z4 hn h0 h1 hs r3 r4)
  clear hn p3 p4 r3 r4
  go_enter Try.func4, Try.ntmps4
  go_wp2_with fail
  refine (known_any _).mono ?_
  rintro e w1 ⟨rfl, b1⟩
  go_wp2_with fail
  refine (putText_any s (by omega) _).mono ?_
  rintro e w2 ⟨v2, rfl, hr2, b2⟩
  have B2 := b1.trans (b2.mono b1.size)
  clear b1 b2
  go_wp2_with fail
  refine (put_any n HN.out _).mono ?_
  rintro e w3 ⟨v3, rfl, hr3, b3⟩
  go_wp2_with fail
  refine (putInt_any m h0 h1 _).mono ?_
  rintro e w4 ⟨v4, rfl, hr4, b4⟩
  have B4 := (B2.trans (b3.mono B2.size)).trans (b4.mono (Nat.le_trans B2.size b3.size))
  obtain ⟨l2, hl2⟩ : ∃ l, l = Num.put s.size ++ bl s := ⟨_, rfl⟩
  obtain ⟨l3, hl3⟩ : ∃ l, l = Num.put n := ⟨_, rfl⟩
  obtain ⟨l4, hl4⟩ : ∃ l, l = Num.put (Num.zig m) := ⟨_, rfl⟩
  have hne2 : l2 ≠ [] := by subst hl2; simp [Num.put, Num.enc_ne]
  have hne3 : l3 ≠ [] := by subst hl3; exact Num.enc_ne _ _
  have hne4 : l4 ≠ [] := by subst hl4; exact Num.enc_ne _ _
  rw [← hl2] at hr2
  rw [← hl3] at hr3
  rw [← hl4] at hr4
  have hr2' := hr2.below (b3.trans (b4.mono b3.size))
  have hr3' := hr3.below b4
  clear hr2 hr3 b3 b4 B2
  obtain ⟨g2, d2, rfl, -⟩ := hr2'.is hne2
  obtain ⟨g3, d3, rfl, -⟩ := hr3'.is hne3
  obtain ⟨g4, d4, rfl, -⟩ := hr4.is hne4
  have q2 := hr2'.part
  have q3 := hr3'.part
  have q4 := hr4.part
  have b5 : Below w4.heap.size w4 (w4.alloc (.cells #[.slice a3 z3.length c3, .slice (some ⟨g3, 0, none⟩) l3.length d3, .slice (some ⟨g4, 0, none⟩) l4.length d4, .slice (some ⟨g2, 0, none⟩) l2.length d2, .slice a4 z4.length c4] 24)) :=
    (Below.refl _ _).alloc (Nat.le_refl _) _
  have hP := parts_five _ w4.heap.size 24 a3 (some ⟨g3, 0, none⟩) (some ⟨g4, 0, none⟩) (some ⟨g2, 0, none⟩) a4 z3 l3 l4 l2 z4 c3 d3 d4 d2 c4 (heap_alloc_new w4 _)
    ((P3.out.below (B4.mono (Nat.le_refl _))).below b5) (q3.below b5) (q4.below b5) (q2.below b5) ((P4.out.below B4).below b5)
  have hcat : cat (L5 z3 l3 l4 l2 z4) 5 = all5 z3 n m s z4 := by rw [hl2, hl3, hl4]; exact cat_five _ _ _ _ _
  have hlen := all5_len z3 n m s z4
  have hk1 := Num.put_len n
  have hk2 := Num.put_len (Num.zig m)
  have hk3 := Num.put_len s.size
  have HJ := Lib.hid (join_any w4.heap.size 5 5 _ _ _ _ hP (by omega) (by rw [hcat]; omega))
  rw [hcat] at HJ
  have HL := Lib.hid hlen
  clear hr2' hr3' hr4 q2 q3 q4 hP hcat hne2 hne3 hne4 hl2 hl3 hl4 P3 P4 hlen
  go_wp2_with fail
  refine HJ.out.mono ?_
  clear HJ
  rintro e w5 ⟨g, c, rfl, hr5, b6⟩
  obtain ⟨g', c', hv, -, hg, hNc, hcm, hcell⟩ := hr5.is (by intro h; have := HL.out; rw [h] at this; simp at this; omega)
  simp only [Value.slice.injEq, Option.some.injEq, Addr.mk.injEq, and_true, true_and] at hv
  obtain ⟨rfl, rfl⟩ := hv
  have B5 := (B4.trans (b5.mono B4.size)).trans (b6.mono (Nat.le_trans B4.size b5.size))
  have d1 := drop1 z3 n m s z4
  have d2' := drop2 z3 n m s z4
  have d3' := drop3 z3 n m s z4
  obtain ⟨zs, hzs⟩ : ∃ zs, zs = all5 z3 n m s z4 := ⟨_, rfl⟩
  rw [← hzs] at hNc hcell hr5 HR HL d1 d2' d3'
  rw [← hzs]
  obtain ⟨i, hi⟩ : ∃ i, i = z3.length + (Num.put n).length := ⟨_, rfl⟩
  rw [← hi] at d2' d3'
  obtain ⟨j, hj⟩ : ∃ j, j = i + (Num.put (Num.zig m)).length := ⟨_, rfl⟩
  rw [← hj] at d3'
  obtain ⟨k, hk⟩ : ∃ k, k = j + (Num.put s.size).length + s.size := ⟨_, rfl⟩
  obtain ⟨N, hN⟩ : ∃ N, N = zs.length := ⟨_, rfl⟩
  rw [← hN] at hNc hcell hr5
  rw [← hN]
  have lies : Lies w5 g 0 N zs := ⟨hg, fun t ht => by rw [Nat.zero_add]; exact hcell t ht, hN, by have := HL.out; omega, HR.out⟩
  have e1 : N ≤ k + z4.length := by have := HL.out; omega
  have e2 : k + z4.length ≤ N := by have := HL.out; omega
  have e3 : z3.length < i := by omega
  have e4 : i < j := by omega
  have e5 : j < k := by omega
  have e6 : k ≤ 1000 := by omega
  have HI := Lib.hid hi
  have HJ := Lib.hid hj
  have HK := Lib.hid hk
  have D1 := Lib.hid d1
  have D2 := Lib.hid d2'
  have D3 := Lib.hid d3'
  have LI := Lib.hid lies
  have HCM := Lib.hid hcm
  clear HR HL hg hcell hr5 d1 d2' d3' hzs hi hj hk hN hcm B4 b5 b6 lies hk1 hk2 hk3
  go_wp2_with fail
  refine (take_is _ g c N N z3.length n i zs _ LI.out (Nat.le_refl _) (by omega) D1.out HN.out HI.out).mono ?_
  rintro e w6 ⟨he, b6⟩
  rw [if_neg (by omega)] at he
  subst he
  have LI6 := Lib.hid (LI.out.below b6)
  have B6 := B5.trans (b6.mono B5.size)
  clear LI b6 B5
  go_wp2_with fail
  refine (takeInt_is _ g c N N i j m zs _ LI6.out (Nat.le_refl _) (by omega) D2.out h0 h1 HJ.out).mono ?_
  rintro e w7 ⟨he, b7⟩
  rw [if_neg (by omega)] at he
  subst he
  have LI7 := Lib.hid (LI6.out.below b7)
  have B7 := B6.trans (b7.mono B6.size)
  clear LI6 b7 B6
  go_wp2_with fail
  refine (takeText_is _ g c N N j k s zs z4 LI7.out (Nat.le_refl _) (by omega) D3.out hs hNc HCM.out HK.out).mono ?_
  rintro e w8 ⟨he, b8⟩
  rw [if_neg (by omega)] at he
  subst he
  have LI8 := Lib.hid (LI7.out.below b8)
  have B8 := B7.trans (b8.mono B7.size)
  clear LI7 b8 B7
  by_cases q1 : q < (z3.length : Int)
  · go_wp2_with fail
    go_ret
    exact ⟨rfl, B8⟩
  · by_cases q2 : (k : Int) ≤ q
    · go_wp2_with fail
      go_ret
      exact ⟨rfl, B8⟩
    · obtain ⟨r, rfl⟩ := Int.eq_ofNat_of_zero_le (show 0 ≤ q by omega)
      go_wp2_with fail
      refine (take_is _ g c N r z3.length n i zs _ LI8.out (by omega) (by omega) D1.out HN.out HI.out).mono ?_
      rintro e w9 ⟨he, b9⟩
      have LI9 := Lib.hid (LI8.out.below b9)
      have B9 := B8.trans (b9.mono B8.size)
      clear LI8 b9 B8
      by_cases r1 : r < i
      · rw [if_pos r1] at he
        subst he
        go_wp2_with fail
        go_ret
        exact ⟨rfl, B9⟩
      · rw [if_neg r1] at he
        subst he
        go_wp2_with fail
        refine (takeInt_is _ g c N r i j m zs _ LI9.out (by omega) (by omega) D2.out h0 h1 HJ.out).mono ?_
        rintro e w10 ⟨he, b10⟩
        have LI10 := Lib.hid (LI9.out.below b10)
        have B10 := B9.trans (b10.mono B9.size)
        clear LI9 b10 B9
        by_cases r2 : r < j
        · rw [if_pos r2] at he
          subst he
          go_wp2_with fail
          go_ret
          exact ⟨rfl, B10⟩
        · rw [if_neg r2] at he
          subst he
          go_wp2_with fail
          refine (takeText_is _ g c N r j k s zs z4 LI10.out (by omega) (by omega) D3.out hs hNc HCM.out HK.out).mono ?_
          rintro e w11 ⟨he, b11⟩
          have B11 := B10.trans (b11.mono B10.size)
          rw [if_pos (by omega)] at he
          subst he
          go_wp2_with fail
          go_ret
          exact ⟨rfl, B11⟩

/-- a row that came in, as a part -/
theorem row_part {w : World} {a : Option Addr} {len cap : Nat} {zs : List Int}
    (h : (a = none ∧ len = 0 ∧ cap = 0 ∧ zs = []) ∨ ∃ x, a = some x ∧ len ≤ cap ∧ cap ≤ maxLen ∧ zs.length = cap ∧ (∀ i, i < zs.length → w.cell? (x.add i) = some (.int .u8 (zs.getD i 0))) ∧ ∀ n ∈ zs, (Lit.int .u8 n).wf = true) :
    Part w a (zs.take len) cap ∧ (zs.take len).length = len ∧ (∀ x ∈ zs.take len, 0 ≤ x ∧ x ≤ 255) ∧ len ≤ maxLen := by
  rcases h with ⟨rfl, rfl, rfl, rfl⟩ | ⟨x, rfl, hl, hm, hz, hc, hw⟩
  · exact ⟨⟨(fun _ => ⟨rfl, rfl⟩), (fun ad e => by cases e)⟩, rfl, (fun x hx => by cases hx), Nat.zero_le _⟩
  · refine ⟨⟨(fun e => by cases e), fun ad e j u hu => ?_⟩, by rw [List.length_take]; omega, fun y hy => ?_, by omega⟩
    · cases e
      have hj : j < len := by
        have := (List.getElem?_eq_some_iff.1 hu).1
        simp at this; omega
      rw [hc j (by omega), ← hu]
      simp [List.getD, List.getElem?_take_of_lt hj, List.getElem?_eq_getElem (show j < zs.length by omega)]
    · have := hw y (List.mem_of_mem_take hy)
      simpa [Lit.wf, IntKind.min, IntKind.max, IntKind.signed, IntKind.bits] using this

set_option maxRecDepth 100000 in
set_option maxHeartbeats 1000000 in
theorem back_big (n : Nat) (m : Int) (s : ByteArray) (a3 a4 : Option Addr) (l3 c3 l4 c4 : Nat) (q : Int) (w : World) (hs : s.size ≤ 9223372036854775807) (h3 : l3 ≤ 9223372036854775807) (h4 : l4 ≤ 9223372036854775807)
    (hbig : 100 < s.size ∨ 100 < l3 ∨ 100 < l4) :
    Calls Try.prog 4 #[.int .u64 (n : Int), .int .i64 m, .string s, .slice a3 l3 c3, .slice a4 l4 c4, .int .i64 q] w fun e w' => e = .returned (.bool true) ∧ Below w.heap.size w w' := by
  have HB := Lib.hid hbig
  clear hbig
  go_enter Try.func4, Try.ntmps4
  go_wp2_with fail
  refine (known_any _).mono ?_
  rintro e w1 ⟨rfl, b1⟩
  by_cases c1 : 100 < s.size
  · go_wp2_with fail
    go_ret
    exact ⟨rfl, b1⟩
  · by_cases c2 : 100 < l3
    · go_wp2_with fail
      go_ret
      exact ⟨rfl, b1⟩
    · have c3' : 100 < l4 := by have := HB.out; omega
      go_wp2_with fail
      go_ret
      exact ⟨rfl, b1⟩

end Go.Proofs.Ytdhfflfjbkpmoaa
