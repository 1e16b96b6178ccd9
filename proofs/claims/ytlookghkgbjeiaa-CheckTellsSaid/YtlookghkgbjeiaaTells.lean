/- The law CheckTells: its walk. -/
import Derived.Test.YtlookghkgbjeiaaSpoil
import Derived.RegionTactic
import Derived.BigRegion
import Derived.Deep.RegionHeld
namespace Go.Proofs.Ytlookghkgbjeiaa
open Go.RowKit

theorem own_layB {w : World} {B n : Nat} {zs : List Int} {v : Value} (h : w.ownsRow B 5 1 v n (zs.map (Value.int .u8))) (hn : 0 < n) :
    ∃ g cap, v = .slice (some ⟨g, 0, none⟩) n cap ∧ B ≤ g ∧ LayB w g zs := by
  rcases h.2 with ⟨rfl, h0⟩ | ⟨g, cap, cur, rfl, hB, hg, rest⟩
  · have h1 := h.1
    rw [h0] at h1
    simp at h1
    omega
  · refine ⟨g, cap, rfl, hB, cur, hg, fun m hm => ?_⟩
    have := h.cells (g := g) rfl m (.int .u8 (zs.getD m 0)) (by simp [List.getD, hm])
    rw [show ((⟨g, 0, none⟩ : Addr).add m) = ⟨g, m, none⟩ by unfold Addr.add; split <;> simp_all, cell_of_row w g m cur _ _ hg] at this
    exact this

theorem Reads.news {w : World} {x : Addr} {zs : List Int} (h : Reads w (some x) zs) : ∀ j u, (zs.map (Value.int .u8))[j]? = some u → w.cell? (x.add j) = some u := by
  intro j u hu
  have hj : j < zs.length := by
    have := (List.getElem?_eq_some_iff.1 hu).1
    simpa using this
  rw [h.at hj, ← hu]
  simp [List.getD, hj]

theorem xor_bit (v s : Nat) (hv : v < 256) (hs : s < 8) : bits .xor .u8 (v : Int) ((2 : Int) ^ s % 256) = ((v ^^^ 2 ^ s : Nat) : Int) := by
  have h2 : 2 ^ s < 256 := Nat.pow_lt_pow_right (n := 8) (by decide) hs
  have e : (2 : Int) ^ s % 256 = ((2 ^ s : Nat) : Int) := by
    have e2 : ((2 ^ s : Nat) : Int) = (2 : Int) ^ s := Int.natCast_pow 2 s
    rw [← e2]
    exact Int.emod_eq_of_lt (Int.natCast_nonneg _) (Int.ofNat_lt.2 h2)
  rw [e]
  exact u8_xor_nat v (2 ^ s) hv h2

theorem bit_set (m i : Nat) (hm : m < 4294967296) (hb : m.testBit i = true) : bits .and .u32 ((m : Int) / (2 : Int) ^ i) 1 = 1 := by
  have hq := and1_odd (m / 2 ^ i) (Nat.lt_of_le_of_lt (Nat.div_le_self _ _) hm) (by rw [Nat.testBit_div_two_pow, Nat.zero_add]; exact hb)
  rw [Int.natCast_ediv, Int.natCast_pow] at hq
  exact hq
theorem bit_clear (m i : Nat) (hm : m < 4294967296) (hb : m.testBit i = false) : bits .and .u32 ((m : Int) / (2 : Int) ^ i) 1 = 0 := by
  have hq := and1_even (m / 2 ^ i) (Nat.lt_of_le_of_lt (Nat.div_le_self _ _) hm) (by rw [Nat.testBit_div_two_pow, Nat.zero_add]; exact hb)
  rw [Int.natCast_ediv, Int.natCast_pow] at hq
  exact hq

theorem zeros_reads (w : World) (k : Nat) (hk : k ≤ 300) : Reads (w.alloc (made k)) (some ⟨w.heap.size, 0, none⟩) (zerosZ k) :=
  (made_lay w k).reads (zerosZ_range k) (by rw [zerosZ_len]; omega)
theorem below_made (w : World) (k : Nat) : Below w.heap.size w (w.alloc (made k)) := (Below.refl _ _).alloc (Nat.le_refl _) _

theorem Reads.more {w : World} {a : Option Addr} {zs : List Int} (h : Reads w a zs) (k : Nat) : Reads (w.alloc (made k)) a zs := h.below (below_made w k)
theorem Reads.zeros {w : World} {a : Option Addr} {zs : List Int} (_ : Reads w a zs) (k : Nat) (hk : k ≤ 300) : Reads (w.alloc (made k)) (some ⟨w.heap.size, 0, none⟩) (zerosZ k) := zeros_reads w k hk
theorem below_more {w0 w : World} (h : Below w0.heap.size w0 w) (k : Nat) : Below w0.heap.size w0 (w.alloc (made k)) := h.trans ((below_made w k).mono h.size)

theorem tells_bool (m a b : Nat) (ha : a < 4294967296) (hb : b < 4294967296) (h : a = b ↔ m = 0) :
    ((a : Int) == (b : Int)) = decide (m = 0) ∧ ((m : Int) == 0) = decide (m = 0) ∧ (((Crc.mask a : Nat) : Int) == ((Crc.mask b : Nat) : Int)) = decide (m = 0) := by
  refine ⟨?_, ?_, ?_⟩
  · rw [Bool.eq_iff_iff]
    simp only [beq_iff_eq, decide_eq_true_eq, ← h]
    omega
  · rw [Bool.eq_iff_iff]
    simp only [beq_iff_eq, decide_eq_true_eq]
    omega
  · rw [Bool.eq_iff_iff]
    simp only [beq_iff_eq, decide_eq_true_eq, ← h, ← Crc.mask_inj ha hb]
    omega

set_option maxRecDepth 100000 in
set_option maxHeartbeats 4000000 in
theorem tells_in (x y : Addr) (n cap cap2 p0 mask : Nat) (za zb : List Int) (w : World) (hza : n = za.length) (hzb : n = zb.length) (ha : Reads w (some x) za) (hb : Reads w (some y) zb)
    (h4 : 4 ≤ n) (h300 : n ≤ 300) (hp0 : p0 ≤ 9223372036854775807) (hm : mask < 4294967296) :
    Calls Try.prog 4 #[.slice (some x) n cap, .slice (some y) n cap2, .int .i64 (p0 : Int), .int .u32 (mask : Int)] w fun e w' => e = .returned (.bool true) ∧ Below w.heap.size w w' := by
  have HA := Lib.hid ha
  have HB := Lib.hid hb
  have HZA := Lib.hid hza
  have HZB := Lib.hid hzb
  clear ha hb hza hzb
  obtain ⟨i0, hi, hz0, hz1, hz2⟩ := info_parts infoByte
  go_enter Try.func4, Try.ntmps4
  go_wp2_with fail
  refine (known_any _).mono ?_
  rintro e w1 ⟨rfl, hb1⟩
  obtain ⟨p, hp⟩ : ∃ p, p = p0 % (8 * n - 31) := ⟨_, rfl⟩
  have hpl : p + 32 ≤ 8 * n := by have := Nat.mod_lt p0 (show 0 < 8 * n - 31 by omega); omega
  have hmod : (p0 : Int) % (8 * (n : Int) - 31) = (p : Int) := by rw [hp, Int.natCast_emod]; congr 1; omega
  clear hp
  have r1 := HA.out.below (hb1.alloc hb1.size (.cells #[] 5))
  have hbn := hb1.alloc hb1.size (.cells #[] 5)
  go_wp2_with (at_builtin; refine wpList_append_own _ rfl _ _ 22 rfl w1.heap.size 5 i0 (.int .u8 0) 1 1 Try.underlying22 hi hz0 hz1 hz2 rfl (by decide) _ _ _ rfl (World.ownsRow_lit w1 #[] 0 (Nat.le_refl _) (by unfold maxLen; omega) rfl) x n cap (za.map (Value.int .u8)) rfl (by simp; have := HZA.out; omega) r1.news (ints_oneCell .u8 za) (by unfold maxLen; omega) (by omega) (by simp) ?_)
  intro v' w2 hown2 hg2 _
  have hown3 : w2.ownsRow w1.heap.size 5 1 v' n (za.map (Value.int .u8)) := by simpa using hown2
  obtain ⟨g, cp, rfl, hgB, hlay⟩ := own_layB hown3 (by omega)
  have b2 : Below w.heap.size w w2 := hbn.grown hg2 hbn.size (fun k hk => by simp [Value.ownBlock] at hk; have := hb1.size; omega)
  have hgw : w.heap.size ≤ g := Nat.le_trans hb1.size hgB
  clear hown2 hg2 hown3 r1 hbn hgB hb1 hi hz0 hz1 hz2
  have HY := Lib.hid hlay
  clear hlay
  go_wp2
  rw [hmod]
  clear hmod
  go_loopw [10] (fun j wq => ∃ (i : Nat) (cs : List Int), i ≤ 32 ∧ j = .int .i64 (i : Int) ∧ LayB wq g cs ∧ Spoilt za p mask i cs ∧ Below w.heap.size w wq) (fun j _ => 32 - (intOf j).toNat)
  case atStart => exact ⟨0, za, by omega, rfl, HY.out, Spoilt.start HA.out.hr p mask, b2⟩
  case round =>
    clear HY b2
    obtain ⟨i, cs, hi, rfl, hlay, hsp, hbel⟩ := hrel
    have HL := Lib.hid hlay
    have HS := Lib.hid hsp
    clear hlay hsp
    by_cases h32 : i = 32
    · subst h32
      clear hi
      have hlc : n = cs.length := by rw [HS.out.len]; exact HZA.out
      have hiff := Crc.crc_burst za cs n p mask HZA.out.symm hlc.symm hpl hm (fun q hq => HS.out.bit q (by rw [← HZA.out]; exact hq))
      have hRc : Reads wr (some ⟨g, 0, none⟩) cs := HL.out.reads HS.out.hr (by omega)
      have HLC := Lib.hid hlc
      have HRC := Lib.hid hRc
      have HRA := Lib.hid (HA.out.below hbel)
      have HRB := Lib.hid (HB.out.below hbel)
      clear hlc hRc
      obtain ⟨e1, e2, e3⟩ := tells_bool mask _ _ (Crc.crc_lt za) (Crc.crc_lt cs) hiff
      have HIFF := Lib.hid hiff
      clear hiff HS
      go_wp2_with fail
      refine (of_any _ n cap za wr HZA.out HRA.out).mono ?_
      rintro e w3 ⟨rfl, b3⟩
      go_wp2_with fail
      refine (of_any _ n cp cs w3 HLC.out (HRC.out.below b3)).mono ?_
      rintro e w4 ⟨rfl, b4'⟩
      have b4 := b3.trans (b4'.mono b3.size)
      clear b4' b3
      go_wp2_with fail
      refine (masked_any _ n cap za w4 HZA.out (HRA.out.below b4)).mono ?_
      rintro e w5 ⟨rfl, b5'⟩
      have b5 := b4.trans (b5'.mono b4.size)
      clear b5' b4
      go_wp2_with fail
      refine (masked_any _ n cp cs w5 HLC.out (HRC.out.below b5)).mono ?_
      rintro e w6 ⟨rfl, b6'⟩
      have b6 := b5.trans (b6'.mono b5.size)
      clear b6' b5
      have hmk := make_bytes n h300
      have B6 := (hbel.trans (b6.mono hbel.size)).alloc (hbel.trans (b6.mono hbel.size)).size (made n)
      have hg2 : w.heap.size ≤ w6.heap.size := (hbel.trans (b6.mono hbel.size)).size
      have hlay0 := made_lay w6 n
      rw [HZA.out, ← both_zero za zb, ← HZA.out] at hlay0
      have HL0 := Lib.hid hlay0
      clear hlay0 b6 HRA HRB HRC HLC hbel HL HIFF
      go_wp2_with fail
      clear hmk e1 e2 e3
      generalize w6.alloc (made n) = W at *
      generalize w6.heap.size = g2 at *
      go_loopw [12] (fun j wq => ∃ k : Nat, k ≤ n ∧ j = .int .i64 (k : Int) ∧ LayB wq g2 (both za zb k) ∧ Below w.heap.size w wq) (fun j _ => n - (intOf j).toNat)
      case atStart => exact ⟨0, by omega, rfl, HL0.out, B6⟩
      case round =>
        clear HL0 B6
        obtain ⟨k, hk, rfl, hlay, hbel⟩ := hrel
        have HL := Lib.hid hlay
        clear hlay
        by_cases hkn : k = n
        · subst hkn
          have hk300 := h300
          have hlb : k = (both za zb k).length := by rw [both_len]; exact HZA.out
          have hlz : k = (zerosZ k).length := (zerosZ_len k).symm
          have hx1 := u32_xor_nat (Crc.crc za) (Crc.crc zb) (Crc.crc_lt za) (Crc.crc_lt zb)
          have hsum : (Crc.crc za ^^^ Crc.crc zb) ^^^ Crc.crc (both za zb k) = Crc.crc (zerosZ k) :=
            Crc.crc_sum za zb (both za zb k) (zerosZ k) k HZA.out.symm HZB.out.symm hlb.symm hlz.symm (fun q hq => by rw [HZA.out]; exact both_raw za zb q (by rw [← HZA.out]; exact hq)) (fun q _ => zerosZ_raw k q)
          have hx2 := u32_xor_nat (Crc.crc za ^^^ Crc.crc zb) (Crc.crc (both za zb k)) (Crc.xor_lt (Crc.crc_lt za) (Crc.crc_lt zb)) (Crc.crc_lt _)
          rw [hsum] at hx2
          have hmk := make_bytes k h300
          have RA := Lib.hid (HA.out.below hbel.drew)
          have RB := Lib.hid (HB.out.below hbel.drew)
          have RC := Lib.hid ((HL.out.reads (both_range HA.out.hr HB.out.hr k) (by rw [← hlb]; omega)).below (Below.refl _ _).drew)
          have BB := hbel.drew
          have HZC := Lib.hid hlb
          have HZZ := Lib.hid hlz
          clear hsum hlb hlz HL hbel HA HB h300
          go_wp2_with fail
          refine wp_region_held_drew (S := fun _ => True) (by kernel_rfl) trivial (fun hHeld => ?_)
          generalize wr.drew = wz at *
          refine wpAnyH_take (i := 0) (oi := ?_) (v := ?_) ?_ (by kernel_rfl) (by kernel_rfl) (by kernel_rfl) ?_ (Or.inl ⟨?_, ?_⟩) (by assumption) ?_
          rotate_left 2
          focus (simp only [List.getElem?_toArray, List.getElem?_cons_zero]; rfl)
          focus exact fun _ _ _ h => h
          focus rfl
          focus (intro W hS; (try dsimp only at hS); go_simp; (try with_reducible rfl))
          try simp only [Act.put]
          try simp only [List.setIfInBounds_toArray]
          try simp only [List.set_cons_succ]
          try simp only [List.set_cons_zero]
          refine wpAnyH_take (i := 2) (oi := ?_) (v := ?_) ?_ (by kernel_rfl) (by kernel_rfl) (by kernel_rfl) ?_ (Or.inl ⟨?_, ?_⟩) (by assumption) ?_
          rotate_left 2
          focus (simp only [List.getElem?_toArray, List.getElem?_cons_succ, List.getElem?_cons_zero]; rfl)
          focus exact fun _ _ _ h => h
          focus rfl
          focus (intro W hS; (try dsimp only at hS); go_simp; (try with_reducible rfl))
          try simp only [Act.put]
          try simp only [List.setIfInBounds_toArray]
          try simp only [List.set_cons_succ]
          try simp only [List.set_cons_zero]
          refine wpAnyH_take (i := 5) (oi := ?_) (v := ?_) ?_ (by kernel_rfl) (by kernel_rfl) (by kernel_rfl) ?_ (Or.inl ⟨?_, ?_⟩) (by assumption) ?_
          rotate_left 2
          focus (simp only [List.getElem?_toArray, List.getElem?_cons_succ, List.getElem?_cons_zero]; rfl)
          focus exact fun _ _ _ h => h
          focus rfl
          focus (intro W hS; (try dsimp only at hS); go_simp; (try with_reducible rfl))
          try simp only [Act.put]
          try simp only [List.setIfInBounds_toArray]
          try simp only [List.set_cons_succ]
          try simp only [List.set_cons_zero]
          refine wpAnyH_take (i := 8) (oi := ?_) (v := ?_) ?_ (by kernel_rfl) (by kernel_rfl) (by kernel_rfl) ?_ (Or.inl ⟨?_, ?_⟩) (by assumption) ?_
          rotate_left 2
          focus (simp only [List.getElem?_toArray, List.getElem?_cons_succ, List.getElem?_cons_zero]; rfl)
          focus exact fun _ _ _ h => h
          focus rfl
          focus (intro W hS; (try dsimp only at hS); go_simp; (try with_reducible rfl))
          try simp only [Act.put]
          try simp only [List.setIfInBounds_toArray]
          try simp only [List.set_cons_succ]
          try simp only [List.set_cons_zero]
          refine wpAnyH_take (i := 9) (oi := ?_) (v := ?_) ?_ (by kernel_rfl) (by kernel_rfl) (by kernel_rfl) ?_ (Or.inl ⟨?_, ?_⟩) (by assumption) ?_
          rotate_left 2
          focus (simp only [List.getElem?_toArray, List.getElem?_cons_succ, List.getElem?_cons_zero]; rfl)
          focus exact fun _ _ _ h => h
          focus rfl
          focus (intro W hS; (try dsimp only at hS); go_simp; (try with_reducible rfl))
          try simp only [Act.put]
          try simp only [List.setIfInBounds_toArray]
          try simp only [List.set_cons_succ]
          try simp only [List.set_cons_zero]
          refine wpAnyH_ready (rs := [1, 10]) (by kernel_rfl) (by simp) ?_
          refine AllReadyH.cons (o := ?o1a) ?h1a (fun K hK => ?s1a) (AllReadyH.cons (o := ?o1b) ?h1b (fun K hK => ?s1b) AllReadyH.nil)
          case h1a => simp only [List.getElem?_toArray, List.getElem?_cons_succ, List.getElem?_cons_zero]; rfl
          case h1b => simp only [List.getElem?_toArray, List.getElem?_cons_succ, List.getElem?_cons_zero]; rfl
          case s1a =>
            rw [if_pos (by rfl)]
            go_simp
            with_reducible refine (of_any _ _ cap za _ HZA.out RA.out).mono ?_
            rintro e wn ⟨rfl, hbn⟩
            have RA := Lib.hid (RA.out.below hbn)
            have RB := Lib.hid (RB.out.below hbn)
            have RC := Lib.hid (RC.out.below hbn)
            have BB := BB.trans (hbn.mono BB.size)
            clear hbn
            go_wp2_with fail
            refine hK.out _ _ trivial (fun hHeld => ?_)
            clear hK K
            try simp only [Act.put]
            try simp only [List.setIfInBounds_toArray]
            try simp only [List.set_cons_succ]
            try simp only [List.set_cons_zero]
            refine wpAnyH_ready (rs := [3, 10]) (by kernel_rfl) (by simp) ?_
            refine AllReadyH.cons (o := ?o2a) ?h2a (fun K hK => ?s2a) (AllReadyH.cons (o := ?o2b) ?h2b (fun K hK => ?s2b) AllReadyH.nil)
            case h2a => simp only [List.getElem?_toArray, List.getElem?_cons_succ, List.getElem?_cons_zero]; rfl
            case h2b => simp only [List.getElem?_toArray, List.getElem?_cons_succ, List.getElem?_cons_zero]; rfl
            case s2a =>
              rw [if_pos (by rfl)]
              go_simp
              with_reducible refine (of_any _ _ cap2 zb _ HZB.out RB.out).mono ?_
              rintro e wn ⟨rfl, hbn⟩
              have RA := Lib.hid (RA.out.below hbn)
              have RB := Lib.hid (RB.out.below hbn)
              have RC := Lib.hid (RC.out.below hbn)
              have BB := BB.trans (hbn.mono BB.size)
              clear hbn
              go_wp2_with fail
              refine hK.out _ _ trivial (fun hHeld => ?_)
              clear hK K
              try simp only [Act.put]
              try simp only [List.setIfInBounds_toArray]
              try simp only [List.set_cons_succ]
              try simp only [List.set_cons_zero]
              refine wpAnyH_take (i := 4) (oi := ?_) (v := ?_) ?_ (by kernel_rfl) (by kernel_rfl) (by kernel_rfl) ?_ (Or.inl ⟨?_, ?_⟩) (by assumption) ?_
              rotate_left 2
              focus (simp only [List.getElem?_toArray, List.getElem?_cons_succ, List.getElem?_cons_zero]; rfl)
              focus exact fun _ _ _ h => h
              focus rfl
              focus (intro W hS; (try dsimp only at hS); go_simp; (try with_reducible rfl))
              try simp only [Act.put]
              try simp only [List.setIfInBounds_toArray]
              try simp only [List.set_cons_succ]
              try simp only [List.set_cons_zero]
              refine wpAnyH_ready (rs := [6, 10]) (by kernel_rfl) (by simp) ?_
              refine AllReadyH.cons (o := ?o3a) ?h3a (fun K hK => ?s3a) (AllReadyH.cons (o := ?o3b) ?h3b (fun K hK => ?s3b) AllReadyH.nil)
              case h3a => simp only [List.getElem?_toArray, List.getElem?_cons_succ, List.getElem?_cons_zero]; rfl
              case h3b => simp only [List.getElem?_toArray, List.getElem?_cons_succ, List.getElem?_cons_zero]; rfl
              case s3a =>
                rw [if_pos (by rfl)]
                go_simp
                with_reducible refine (of_any _ _ _ (both za zb k) _ HZC.out RC.out).mono ?_
                rintro e wn ⟨rfl, hbn⟩
                have RA := Lib.hid (RA.out.below hbn)
                have RB := Lib.hid (RB.out.below hbn)
                have RC := Lib.hid (RC.out.below hbn)
                have BB := BB.trans (hbn.mono BB.size)
                clear hbn
                go_wp2_with fail
                refine hK.out _ _ trivial (fun hHeld => ?_)
                clear hK K
                try simp only [Act.put]
                try simp only [List.setIfInBounds_toArray]
                try simp only [List.set_cons_succ]
                try simp only [List.set_cons_zero]
                refine wpAnyH_take (i := 7) (oi := ?_) (v := ?_) ?_ (by kernel_rfl) (by kernel_rfl) (by kernel_rfl) ?_ (Or.inl ⟨?_, ?_⟩) (by assumption) ?_
                rotate_left 2
                focus (simp only [List.getElem?_toArray, List.getElem?_cons_succ, List.getElem?_cons_zero]; rfl)
                focus exact fun _ _ _ h => h
                focus rfl
                focus (intro W hS; (try dsimp only at hS); go_simp; (try with_reducible rfl))
                try simp only [Act.put]
                try simp only [List.setIfInBounds_toArray]
                try simp only [List.set_cons_succ]
                try simp only [List.set_cons_zero]
                refine wpAnyH_ready (rs := [10]) (by kernel_rfl) (by simp) ?_
                refine AllReadyH.cons (o := ?_) ?_ (fun K hK => ?_) AllReadyH.nil
                rotate_left
                focus (simp only [List.getElem?_toArray, List.getElem?_cons_succ, List.getElem?_cons_zero]; rfl)
                rw [if_pos (by rfl)]
                go_simp
                have RZ := Lib.hid (RA.out.zeros k hk300)
                have RA := Lib.hid (RA.out.more k)
                have RB := Lib.hid (RB.out.more k)
                have RC := Lib.hid (RC.out.more k)
                have BB := below_more BB k
                refine hK.out _ _ trivial (fun hHeld => ?_)
                clear hK K
                try simp only [Act.put]
                try simp only [List.setIfInBounds_toArray]
                try simp only [List.set_cons_succ]
                try simp only [List.set_cons_zero]
                refine wpAnyH_ready (rs := [11]) (by kernel_rfl) (by simp) ?_
                refine AllReadyH.cons (o := ?_) ?_ (fun K hK => ?_) AllReadyH.nil
                rotate_left
                focus (simp only [List.getElem?_toArray, List.getElem?_cons_succ, List.getElem?_cons_zero]; rfl)
                rw [if_pos (by rfl)]
                go_simp
                with_reducible refine (of_any _ _ _ (zerosZ k) _ HZZ.out RZ.out).mono ?_
                rintro e wn ⟨rfl, hbn⟩
                have RA := Lib.hid (RA.out.below hbn)
                have RB := Lib.hid (RB.out.below hbn)
                have RC := Lib.hid (RC.out.below hbn)
                have RZ := Lib.hid (RZ.out.below hbn)
                have BB := BB.trans (hbn.mono BB.size)
                clear hbn
                go_wp2_with fail
                refine hK.out _ _ trivial (fun hHeld => ?_)
                clear hK K
                try simp only [Act.put]
                try simp only [List.setIfInBounds_toArray]
                try simp only [List.set_cons_succ]
                try simp only [List.set_cons_zero]
                refine wpAnyH_take (i := 12) (oi := ?_) (v := ?_) ?_ (by kernel_rfl) (by kernel_rfl) (by kernel_rfl) ?_ (Or.inl ⟨?_, ?_⟩) (by assumption) ?_
                rotate_left 2
                focus (simp only [List.getElem?_toArray, List.getElem?_cons_succ, List.getElem?_cons_zero]; rfl)
                focus exact fun _ _ _ h => h
                focus rfl
                focus (intro W hS; (try dsimp only at hS); go_simp; (try with_reducible rfl))
                try simp only [Act.put]
                try simp only [List.setIfInBounds_toArray]
                try simp only [List.set_cons_succ]
                try simp only [List.set_cons_zero]
                refine wpAnyH_take (i := 13) (oi := ?_) (v := ?_) ?_ (by kernel_rfl) (by kernel_rfl) (by kernel_rfl) ?_ (Or.inl ⟨?_, ?_⟩) (by assumption) ?_
                rotate_left 2
                focus (simp only [List.getElem?_toArray, List.getElem?_cons_succ, List.getElem?_cons_zero]; rfl)
                focus exact fun _ _ _ h => h
                focus rfl
                focus (intro W hS; (try dsimp only at hS); go_simp; (try with_reducible rfl))
                try simp only [Act.put]
                try simp only [List.setIfInBounds_toArray]
                try simp only [List.set_cons_succ]
                try simp only [List.set_cons_zero]
                refine wpAnyH_done (by kernel_rfl) ?_ _
                go_wp2
                go_ret
                exact ⟨rfl, BB⟩
              case s3b =>
                rw [if_pos (by rfl)]
                go_simp
                have RZ := Lib.hid (RA.out.zeros k hk300)
                have RA := Lib.hid (RA.out.more k)
                have RB := Lib.hid (RB.out.more k)
                have RC := Lib.hid (RC.out.more k)
                have BB := below_more BB k
                refine hK.out _ _ trivial (fun hHeld => ?_)
                clear hK K
                try simp only [Act.put]
                try simp only [List.setIfInBounds_toArray]
                try simp only [List.set_cons_succ]
                try simp only [List.set_cons_zero]
                refine wpAnyH_ready (rs := [6]) (by kernel_rfl) (by simp) ?_
                refine AllReadyH.cons (o := ?_) ?_ (fun K hK => ?_) AllReadyH.nil
                rotate_left
                focus (simp only [List.getElem?_toArray, List.getElem?_cons_succ, List.getElem?_cons_zero]; rfl)
                rw [if_pos (by rfl)]
                go_simp
                with_reducible refine (of_any _ _ _ (both za zb k) _ HZC.out RC.out).mono ?_
                rintro e wn ⟨rfl, hbn⟩
                have RA := Lib.hid (RA.out.below hbn)
                have RB := Lib.hid (RB.out.below hbn)
                have RC := Lib.hid (RC.out.below hbn)
                have RZ := Lib.hid (RZ.out.below hbn)
                have BB := BB.trans (hbn.mono BB.size)
                clear hbn
                go_wp2_with fail
                refine hK.out _ _ trivial (fun hHeld => ?_)
                clear hK K
                try simp only [Act.put]
                try simp only [List.setIfInBounds_toArray]
                try simp only [List.set_cons_succ]
                try simp only [List.set_cons_zero]
                refine wpAnyH_take (i := 7) (oi := ?_) (v := ?_) ?_ (by kernel_rfl) (by kernel_rfl) (by kernel_rfl) ?_ (Or.inl ⟨?_, ?_⟩) (by assumption) ?_
                rotate_left 2
                focus (simp only [List.getElem?_toArray, List.getElem?_cons_succ, List.getElem?_cons_zero]; rfl)
                focus exact fun _ _ _ h => h
                focus rfl
                focus (intro W hS; (try dsimp only at hS); go_simp; (try with_reducible rfl))
                try simp only [Act.put]
                try simp only [List.setIfInBounds_toArray]
                try simp only [List.set_cons_succ]
                try simp only [List.set_cons_zero]
                refine wpAnyH_ready (rs := [11]) (by kernel_rfl) (by simp) ?_
                refine AllReadyH.cons (o := ?_) ?_ (fun K hK => ?_) AllReadyH.nil
                rotate_left
                focus (simp only [List.getElem?_toArray, List.getElem?_cons_succ, List.getElem?_cons_zero]; rfl)
                rw [if_pos (by rfl)]
                go_simp
                with_reducible refine (of_any _ _ _ (zerosZ k) _ HZZ.out RZ.out).mono ?_
                rintro e wn ⟨rfl, hbn⟩
                have RA := Lib.hid (RA.out.below hbn)
                have RB := Lib.hid (RB.out.below hbn)
                have RC := Lib.hid (RC.out.below hbn)
                have RZ := Lib.hid (RZ.out.below hbn)
                have BB := BB.trans (hbn.mono BB.size)
                clear hbn
                go_wp2_with fail
                refine hK.out _ _ trivial (fun hHeld => ?_)
                clear hK K
                try simp only [Act.put]
                try simp only [List.setIfInBounds_toArray]
                try simp only [List.set_cons_succ]
                try simp only [List.set_cons_zero]
                refine wpAnyH_take (i := 12) (oi := ?_) (v := ?_) ?_ (by kernel_rfl) (by kernel_rfl) (by kernel_rfl) ?_ (Or.inl ⟨?_, ?_⟩) (by assumption) ?_
                rotate_left 2
                focus (simp only [List.getElem?_toArray, List.getElem?_cons_succ, List.getElem?_cons_zero]; rfl)
                focus exact fun _ _ _ h => h
                focus rfl
                focus (intro W hS; (try dsimp only at hS); go_simp; (try with_reducible rfl))
                try simp only [Act.put]
                try simp only [List.setIfInBounds_toArray]
                try simp only [List.set_cons_succ]
                try simp only [List.set_cons_zero]
                refine wpAnyH_take (i := 13) (oi := ?_) (v := ?_) ?_ (by kernel_rfl) (by kernel_rfl) (by kernel_rfl) ?_ (Or.inl ⟨?_, ?_⟩) (by assumption) ?_
                rotate_left 2
                focus (simp only [List.getElem?_toArray, List.getElem?_cons_succ, List.getElem?_cons_zero]; rfl)
                focus exact fun _ _ _ h => h
                focus rfl
                focus (intro W hS; (try dsimp only at hS); go_simp; (try with_reducible rfl))
                try simp only [Act.put]
                try simp only [List.setIfInBounds_toArray]
                try simp only [List.set_cons_succ]
                try simp only [List.set_cons_zero]
                refine wpAnyH_done (by kernel_rfl) ?_ _
                go_wp2
                go_ret
                exact ⟨rfl, BB⟩
            case s2b =>
              rw [if_pos (by rfl)]
              go_simp
              have RZ := Lib.hid (RA.out.zeros k hk300)
              have RA := Lib.hid (RA.out.more k)
              have RB := Lib.hid (RB.out.more k)
              have RC := Lib.hid (RC.out.more k)
              have BB := below_more BB k
              refine hK.out _ _ trivial (fun hHeld => ?_)
              clear hK K
              try simp only [Act.put]
              try simp only [List.setIfInBounds_toArray]
              try simp only [List.set_cons_succ]
              try simp only [List.set_cons_zero]
              refine wpAnyH_ready (rs := [3]) (by kernel_rfl) (by simp) ?_
              refine AllReadyH.cons (o := ?_) ?_ (fun K hK => ?_) AllReadyH.nil
              rotate_left
              focus (simp only [List.getElem?_toArray, List.getElem?_cons_succ, List.getElem?_cons_zero]; rfl)
              rw [if_pos (by rfl)]
              go_simp
              with_reducible refine (of_any _ _ cap2 zb _ HZB.out RB.out).mono ?_
              rintro e wn ⟨rfl, hbn⟩
              have RA := Lib.hid (RA.out.below hbn)
              have RB := Lib.hid (RB.out.below hbn)
              have RC := Lib.hid (RC.out.below hbn)
              have RZ := Lib.hid (RZ.out.below hbn)
              have BB := BB.trans (hbn.mono BB.size)
              clear hbn
              go_wp2_with fail
              refine hK.out _ _ trivial (fun hHeld => ?_)
              clear hK K
              try simp only [Act.put]
              try simp only [List.setIfInBounds_toArray]
              try simp only [List.set_cons_succ]
              try simp only [List.set_cons_zero]
              refine wpAnyH_take (i := 4) (oi := ?_) (v := ?_) ?_ (by kernel_rfl) (by kernel_rfl) (by kernel_rfl) ?_ (Or.inl ⟨?_, ?_⟩) (by assumption) ?_
              rotate_left 2
              focus (simp only [List.getElem?_toArray, List.getElem?_cons_succ, List.getElem?_cons_zero]; rfl)
              focus exact fun _ _ _ h => h
              focus rfl
              focus (intro W hS; (try dsimp only at hS); go_simp; (try with_reducible rfl))
              try simp only [Act.put]
              try simp only [List.setIfInBounds_toArray]
              try simp only [List.set_cons_succ]
              try simp only [List.set_cons_zero]
              refine wpAnyH_ready (rs := [6]) (by kernel_rfl) (by simp) ?_
              refine AllReadyH.cons (o := ?_) ?_ (fun K hK => ?_) AllReadyH.nil
              rotate_left
              focus (simp only [List.getElem?_toArray, List.getElem?_cons_succ, List.getElem?_cons_zero]; rfl)
              rw [if_pos (by rfl)]
              go_simp
              with_reducible refine (of_any _ _ _ (both za zb k) _ HZC.out RC.out).mono ?_
              rintro e wn ⟨rfl, hbn⟩
              have RA := Lib.hid (RA.out.below hbn)
              have RB := Lib.hid (RB.out.below hbn)
              have RC := Lib.hid (RC.out.below hbn)
              have RZ := Lib.hid (RZ.out.below hbn)
              have BB := BB.trans (hbn.mono BB.size)
              clear hbn
              go_wp2_with fail
              refine hK.out _ _ trivial (fun hHeld => ?_)
              clear hK K
              try simp only [Act.put]
              try simp only [List.setIfInBounds_toArray]
              try simp only [List.set_cons_succ]
              try simp only [List.set_cons_zero]
              refine wpAnyH_take (i := 7) (oi := ?_) (v := ?_) ?_ (by kernel_rfl) (by kernel_rfl) (by kernel_rfl) ?_ (Or.inl ⟨?_, ?_⟩) (by assumption) ?_
              rotate_left 2
              focus (simp only [List.getElem?_toArray, List.getElem?_cons_succ, List.getElem?_cons_zero]; rfl)
              focus exact fun _ _ _ h => h
              focus rfl
              focus (intro W hS; (try dsimp only at hS); go_simp; (try with_reducible rfl))
              try simp only [Act.put]
              try simp only [List.setIfInBounds_toArray]
              try simp only [List.set_cons_succ]
              try simp only [List.set_cons_zero]
              refine wpAnyH_ready (rs := [11]) (by kernel_rfl) (by simp) ?_
              refine AllReadyH.cons (o := ?_) ?_ (fun K hK => ?_) AllReadyH.nil
              rotate_left
              focus (simp only [List.getElem?_toArray, List.getElem?_cons_succ, List.getElem?_cons_zero]; rfl)
              rw [if_pos (by rfl)]
              go_simp
              with_reducible refine (of_any _ _ _ (zerosZ k) _ HZZ.out RZ.out).mono ?_
              rintro e wn ⟨rfl, hbn⟩
              have RA := Lib.hid (RA.out.below hbn)
              have RB := Lib.hid (RB.out.below hbn)
              have RC := Lib.hid (RC.out.below hbn)
              have RZ := Lib.hid (RZ.out.below hbn)
              have BB := BB.trans (hbn.mono BB.size)
              clear hbn
              go_wp2_with fail
              refine hK.out _ _ trivial (fun hHeld => ?_)
              clear hK K
              try simp only [Act.put]
              try simp only [List.setIfInBounds_toArray]
              try simp only [List.set_cons_succ]
              try simp only [List.set_cons_zero]
              refine wpAnyH_take (i := 12) (oi := ?_) (v := ?_) ?_ (by kernel_rfl) (by kernel_rfl) (by kernel_rfl) ?_ (Or.inl ⟨?_, ?_⟩) (by assumption) ?_
              rotate_left 2
              focus (simp only [List.getElem?_toArray, List.getElem?_cons_succ, List.getElem?_cons_zero]; rfl)
              focus exact fun _ _ _ h => h
              focus rfl
              focus (intro W hS; (try dsimp only at hS); go_simp; (try with_reducible rfl))
              try simp only [Act.put]
              try simp only [List.setIfInBounds_toArray]
              try simp only [List.set_cons_succ]
              try simp only [List.set_cons_zero]
              refine wpAnyH_take (i := 13) (oi := ?_) (v := ?_) ?_ (by kernel_rfl) (by kernel_rfl) (by kernel_rfl) ?_ (Or.inl ⟨?_, ?_⟩) (by assumption) ?_
              rotate_left 2
              focus (simp only [List.getElem?_toArray, List.getElem?_cons_succ, List.getElem?_cons_zero]; rfl)
              focus exact fun _ _ _ h => h
              focus rfl
              focus (intro W hS; (try dsimp only at hS); go_simp; (try with_reducible rfl))
              try simp only [Act.put]
              try simp only [List.setIfInBounds_toArray]
              try simp only [List.set_cons_succ]
              try simp only [List.set_cons_zero]
              refine wpAnyH_done (by kernel_rfl) ?_ _
              go_wp2
              go_ret
              exact ⟨rfl, BB⟩
          case s1b =>
            rw [if_pos (by rfl)]
            go_simp
            have RZ := Lib.hid (RA.out.zeros k hk300)
            have RA := Lib.hid (RA.out.more k)
            have RB := Lib.hid (RB.out.more k)
            have RC := Lib.hid (RC.out.more k)
            have BB := below_more BB k
            refine hK.out _ _ trivial (fun hHeld => ?_)
            clear hK K
            try simp only [Act.put]
            try simp only [List.setIfInBounds_toArray]
            try simp only [List.set_cons_succ]
            try simp only [List.set_cons_zero]
            refine wpAnyH_ready (rs := [1]) (by kernel_rfl) (by simp) ?_
            refine AllReadyH.cons (o := ?_) ?_ (fun K hK => ?_) AllReadyH.nil
            rotate_left
            focus (simp only [List.getElem?_toArray, List.getElem?_cons_succ, List.getElem?_cons_zero]; rfl)
            rw [if_pos (by rfl)]
            go_simp
            with_reducible refine (of_any _ _ cap za _ HZA.out RA.out).mono ?_
            rintro e wn ⟨rfl, hbn⟩
            have RA := Lib.hid (RA.out.below hbn)
            have RB := Lib.hid (RB.out.below hbn)
            have RC := Lib.hid (RC.out.below hbn)
            have RZ := Lib.hid (RZ.out.below hbn)
            have BB := BB.trans (hbn.mono BB.size)
            clear hbn
            go_wp2_with fail
            refine hK.out _ _ trivial (fun hHeld => ?_)
            clear hK K
            try simp only [Act.put]
            try simp only [List.setIfInBounds_toArray]
            try simp only [List.set_cons_succ]
            try simp only [List.set_cons_zero]
            refine wpAnyH_ready (rs := [3]) (by kernel_rfl) (by simp) ?_
            refine AllReadyH.cons (o := ?_) ?_ (fun K hK => ?_) AllReadyH.nil
            rotate_left
            focus (simp only [List.getElem?_toArray, List.getElem?_cons_succ, List.getElem?_cons_zero]; rfl)
            rw [if_pos (by rfl)]
            go_simp
            with_reducible refine (of_any _ _ cap2 zb _ HZB.out RB.out).mono ?_
            rintro e wn ⟨rfl, hbn⟩
            have RA := Lib.hid (RA.out.below hbn)
            have RB := Lib.hid (RB.out.below hbn)
            have RC := Lib.hid (RC.out.below hbn)
            have RZ := Lib.hid (RZ.out.below hbn)
            have BB := BB.trans (hbn.mono BB.size)
            clear hbn
            go_wp2_with fail
            refine hK.out _ _ trivial (fun hHeld => ?_)
            clear hK K
            try simp only [Act.put]
            try simp only [List.setIfInBounds_toArray]
            try simp only [List.set_cons_succ]
            try simp only [List.set_cons_zero]
            refine wpAnyH_take (i := 4) (oi := ?_) (v := ?_) ?_ (by kernel_rfl) (by kernel_rfl) (by kernel_rfl) ?_ (Or.inl ⟨?_, ?_⟩) (by assumption) ?_
            rotate_left 2
            focus (simp only [List.getElem?_toArray, List.getElem?_cons_succ, List.getElem?_cons_zero]; rfl)
            focus exact fun _ _ _ h => h
            focus rfl
            focus (intro W hS; (try dsimp only at hS); go_simp; (try with_reducible rfl))
            try simp only [Act.put]
            try simp only [List.setIfInBounds_toArray]
            try simp only [List.set_cons_succ]
            try simp only [List.set_cons_zero]
            refine wpAnyH_ready (rs := [6]) (by kernel_rfl) (by simp) ?_
            refine AllReadyH.cons (o := ?_) ?_ (fun K hK => ?_) AllReadyH.nil
            rotate_left
            focus (simp only [List.getElem?_toArray, List.getElem?_cons_succ, List.getElem?_cons_zero]; rfl)
            rw [if_pos (by rfl)]
            go_simp
            with_reducible refine (of_any _ _ _ (both za zb k) _ HZC.out RC.out).mono ?_
            rintro e wn ⟨rfl, hbn⟩
            have RA := Lib.hid (RA.out.below hbn)
            have RB := Lib.hid (RB.out.below hbn)
            have RC := Lib.hid (RC.out.below hbn)
            have RZ := Lib.hid (RZ.out.below hbn)
            have BB := BB.trans (hbn.mono BB.size)
            clear hbn
            go_wp2_with fail
            refine hK.out _ _ trivial (fun hHeld => ?_)
            clear hK K
            try simp only [Act.put]
            try simp only [List.setIfInBounds_toArray]
            try simp only [List.set_cons_succ]
            try simp only [List.set_cons_zero]
            refine wpAnyH_take (i := 7) (oi := ?_) (v := ?_) ?_ (by kernel_rfl) (by kernel_rfl) (by kernel_rfl) ?_ (Or.inl ⟨?_, ?_⟩) (by assumption) ?_
            rotate_left 2
            focus (simp only [List.getElem?_toArray, List.getElem?_cons_succ, List.getElem?_cons_zero]; rfl)
            focus exact fun _ _ _ h => h
            focus rfl
            focus (intro W hS; (try dsimp only at hS); go_simp; (try with_reducible rfl))
            try simp only [Act.put]
            try simp only [List.setIfInBounds_toArray]
            try simp only [List.set_cons_succ]
            try simp only [List.set_cons_zero]
            refine wpAnyH_ready (rs := [11]) (by kernel_rfl) (by simp) ?_
            refine AllReadyH.cons (o := ?_) ?_ (fun K hK => ?_) AllReadyH.nil
            rotate_left
            focus (simp only [List.getElem?_toArray, List.getElem?_cons_succ, List.getElem?_cons_zero]; rfl)
            rw [if_pos (by rfl)]
            go_simp
            with_reducible refine (of_any _ _ _ (zerosZ k) _ HZZ.out RZ.out).mono ?_
            rintro e wn ⟨rfl, hbn⟩
            have RA := Lib.hid (RA.out.below hbn)
            have RB := Lib.hid (RB.out.below hbn)
            have RC := Lib.hid (RC.out.below hbn)
            have RZ := Lib.hid (RZ.out.below hbn)
            have BB := BB.trans (hbn.mono BB.size)
            clear hbn
            go_wp2_with fail
            refine hK.out _ _ trivial (fun hHeld => ?_)
            clear hK K
            try simp only [Act.put]
            try simp only [List.setIfInBounds_toArray]
            try simp only [List.set_cons_succ]
            try simp only [List.set_cons_zero]
            refine wpAnyH_take (i := 12) (oi := ?_) (v := ?_) ?_ (by kernel_rfl) (by kernel_rfl) (by kernel_rfl) ?_ (Or.inl ⟨?_, ?_⟩) (by assumption) ?_
            rotate_left 2
            focus (simp only [List.getElem?_toArray, List.getElem?_cons_succ, List.getElem?_cons_zero]; rfl)
            focus exact fun _ _ _ h => h
            focus rfl
            focus (intro W hS; (try dsimp only at hS); go_simp; (try with_reducible rfl))
            try simp only [Act.put]
            try simp only [List.setIfInBounds_toArray]
            try simp only [List.set_cons_succ]
            try simp only [List.set_cons_zero]
            refine wpAnyH_take (i := 13) (oi := ?_) (v := ?_) ?_ (by kernel_rfl) (by kernel_rfl) (by kernel_rfl) ?_ (Or.inl ⟨?_, ?_⟩) (by assumption) ?_
            rotate_left 2
            focus (simp only [List.getElem?_toArray, List.getElem?_cons_succ, List.getElem?_cons_zero]; rfl)
            focus exact fun _ _ _ h => h
            focus rfl
            focus (intro W hS; (try dsimp only at hS); go_simp; (try with_reducible rfl))
            try simp only [Act.put]
            try simp only [List.setIfInBounds_toArray]
            try simp only [List.set_cons_succ]
            try simp only [List.set_cons_zero]
            refine wpAnyH_done (by kernel_rfl) ?_ _
            go_wp2
            go_ret
            exact ⟨rfl, BB⟩
        · have hkl : k < n := by omega
          have ca := (HA.out.below hbel).at (i := k) (by have := HZA.out; omega)
          have cb := (HB.out.below hbel).at (i := k) (by have := HZB.out; omega)
          have ra := HA.out.range k
          have rb := HB.out.range k
          obtain ⟨va, hva⟩ : ∃ v : Nat, za.getD k 0 = v := ⟨(za.getD k 0).toNat, by omega⟩
          obtain ⟨vb, hvb⟩ : ∃ v : Nat, zb.getD k 0 = v := ⟨(zb.getD k 0).toNat, by omega⟩
          rw [hva] at ca ra
          rw [hvb] at cb rb
          have hx := u8_xor_nat va vb (by omega) (by omega)
          have hst := HL.out.store k ((va ^^^ vb : Nat) : Int)
          have hnx := both_next za zb k
          rw [hva, hvb, Int.toNat_natCast, Int.toNat_natCast] at hnx
          rw [hnx] at hst
          have hfree := HL.out.free k
          have hcell := HL.out.cell k (by rw [both_len]; have := HZA.out; omega)
          generalize va ^^^ vb = u at *
          have HST := Lib.hid hst
          clear hst hnx hva hvb
          go_wp2_with fail
          go_region
          go_wp2
          go_roundw
          case rel => exact ⟨k + 1, by omega, by go_num, HST.out.other rfl, (hbel.setCell (p := ⟨g2, k, none⟩) hg2 _).drew⟩
          case measure => simp [intOf]; omega
    · have hlt : i < 32 := by omega
      cases hbit : mask.testBit i with
      | false =>
        have hq := bit_clear mask i hm hbit
        have HBI := Lib.hid hbit
        clear hbit
        go_wp2
        go_roundw
        case rel => exact ⟨i + 1, cs, by omega, by go_num, HL.out, HS.out.skip HBI.out, hbel⟩
        case measure => simp [intOf]; omega
      | true =>
        have hq := bit_set mask i hm hbit
        have HBI := Lib.hid hbit
        clear hbit
        have hj : (p + i) / 8 < cs.length := by have := HS.out.len; have := HZA.out; omega
        have hcell := HL.out.cell _ hj
        have hfree := HL.out.free ((p + i) / 8)
        have hv := getD_range HS.out.hr ((p + i) / 8)
        obtain ⟨v, hvv⟩ : ∃ v : Nat, cs.getD ((p + i) / 8) 0 = v := ⟨(cs.getD ((p + i) / 8) 0).toNat, by omega⟩
        have hjn : (p + i) / 8 < n := by omega
        rw [hvv] at hcell hv
        have HV := Lib.hid hvv
        clear hvv hj
        have hx := xor_bit v ((p + i) % 8) (by omega) (Nat.mod_lt _ (by decide))
        have hst := HL.out.store ((p + i) / 8) ((v ^^^ 2 ^ ((p + i) % 8) : Nat) : Int)
        have hsp := HS.out.turn HBI.out v HV.out (by omega)
        generalize v ^^^ 2 ^ ((p + i) % 8) = u at *
        generalize cs.set ((p + i) / 8) (u : Int) = cs2 at *
        have HST := Lib.hid hst
        have HSP := Lib.hid hsp
        clear hst hsp
        go_wp2
        go_roundw
        case rel => exact ⟨i + 1, cs2, by omega, by go_num, HST.out, HSP.out, hbel.setCell (p := ⟨g, (p + i) / 8, none⟩) hgw _⟩
        case measure => simp [intOf]; omega

end Go.Proofs.Ytlookghkgbjeiaa
