/- The law FrameTorn: its walk. -/
import Derived.Test.YtlebeegcdadgiaaTornBase
import Derived.Test.YtlebeegcdadgiaaReg
import Derived.Deep.RegionHeld
namespace Go.Proofs.Ytlebeegcdadgiaa
open Go.RowKit

set_option maxRecDepth 100000 in
set_option maxHeartbeats 8000000 in
theorem torn_in (a0 : Option Addr) (n0 c0 : Nat) (vs : List Value) (ls : List (List Int)) (a1 : Option Addr) (n1 c1 : Nat) (zl : List Int) (a2 : Option Addr) (n2 c2 : Nat) (zb : List Int) (cut at0 mask : Nat) (w : World)
    (h0 : RowsIn w a0 vs ls) (e0 : n0 = ls.length) (k0 : a0 = none → n0 = 0 ∧ c0 = 0) (h1 : Reads w a1 zl) (e1 : n1 = zl.length) (h2 : Reads w a2 zb) (e2 : n2 = zb.length) (k2 : a2 = none → n2 = 0 ∧ c2 = 0)
    (b0 : n0 ≤ 10) (b1 : n1 ≤ 100) (b2 : n2 ≤ 20) (bc : cut ≤ 9223372036854775807) (ba : at0 ≤ 9223372036854775807) (bm : mask < 4294967296) :
    Calls Try.prog 5 #[.slice a0 n0 c0, .slice a1 n1 c1, .slice a2 n2 c2, .int .i64 (cut : Int), .int .i64 (at0 : Int), .int .u32 (mask : Int)] w fun e w' => e = .returned (.bool true) ∧ Below w.heap.size w w' := by
  obtain ⟨i0, hi, hz0, hz1, hz2⟩ := info_parts infoByte
  obtain ⟨j0, ji, jz0, jz1, jz2⟩ := info_parts infoSl
  have H0 := Lib.hid h0
  have H1 := Lib.hid h1
  have H2 := Lib.hid h2
  have E0 := Lib.hid e0
  have E1 := Lib.hid e1
  have E2 := Lib.hid e2
  have K0 := Lib.hid k0
  have K2 := Lib.hid k2
  clear h0 h1 h2 e0 e1 e2 k0 k2
  go_enter Try.func5, Try.ntmps5
  go_wp2_with fail
  refine (known_any w).mono ?_
  rintro e w1 ⟨rfl, hb1⟩
  go_wp2_with fail
  go_loopw [13, 14] (fun v i wr => ∃ k : Nat, k ≤ n0 ∧ i = .int .i64 (k : Int) ∧ Row wr w.heap.size (Frame.flat (ls.take k)) v ∧ Hid (∀ z ∈ ls.take k, z.length ≤ 100) ∧ Below w.heap.size w wr) (fun _ i _ => n0 - (intOf i).toNat)
  case atStart => exact ⟨0, by omega, rfl, World.ownsRow_nil _ _ _ _, fun z hz => by simp at hz, hb1⟩
  case round =>
    clear hb1
    obtain ⟨k, hk, rfl, hrow, HS, hb⟩ := hrel
    by_cases hlt : k < n0
    · obtain ⟨x, A, C, rfl, _, hcell, _, hrd⟩ := (H0.out.below hb).cell k (by rw [← E0.out]; exact hlt)
      have htk : ls.take (k + 1) = ls.take k ++ [ls.getD k []] := by
        have hkl : k < ls.length := by rw [← E0.out]; exact hlt
        rw [List.take_add_one]
        simp [List.getD, hkl]
      have HTK := Lib.hid htk
      clear htk
      obtain ⟨zs, hzs⟩ : ∃ zs, zs = ls.getD k [] := ⟨_, rfl⟩
      rw [← hzs] at hcell hrd HTK
      clear hzs
      by_cases hlong : zs.length ≤ 100
      · have hfl := Frame.flat_le (ls.take k) HS.out
        have hfl2 : (Frame.flat (ls.take k)).length ≤ 2000 := by
          have := List.length_take_le k ls
          omega
        have hff := Frame.frame_short_len zs hlong
        have hfb : (Frame.frameOf zs).length ≤ 106 := by omega
        obtain ⟨fl, hfldef⟩ : ∃ fl, fl = Frame.flat (ls.take k) := ⟨_, rfl⟩
        rw [← hfldef] at hrow hfl2
        have HFL := Lib.hid hfldef
        have HB := Lib.hid hb
        have hbz := hb.size
        have PUT := Lib.hid (framePut_any A zs.length C zs wr rfl hrd (by omega))
        obtain ⟨fs, hfsdef⟩ : ∃ fs, fs = Frame.frameOf zs := ⟨_, rfl⟩
        rw [← hfsdef] at PUT hfb
        have HFS := Lib.hid hfsdef
        clear hfl hff hfldef hb hrd hfsdef
        go_wp2_with fail
        with_reducible refine PUT.out.mono ?_
        rintro e w2 ⟨g, c, rfl, hrf, hb2⟩
        clear PUT hcell
        have hrow2 := hrow.below hb2
        have hbw := HB.out.trans (hb2.mono hbz)
        have hbwz := hbw.size
        have hnews := hrf.news (Below.refl _ _) rfl
        unfold Row at hrow2
        clear hrow hrf hb2
        go_wp2_with (at_builtin; go_loud (refine wpList_append_own _ rfl _ _ 22 rfl w.heap.size 5 i0 (.int .u8 0) 1 1 Try.underlying22 hi hz0 hz1 hz2 rfl (by decide) _ _ _ rfl hrow2 ⟨g, 0, none⟩ fs.length c (fs.map (Value.int .u8)) rfl (by simp) hnews (ints_oneCell .u8 _) (by unfold maxLen; omega) (by omega) hbwz ?_))
        intro v' w3 hown3 hg3 _
        have hb3 := hbw.grown hg3 hbwz (fun j hj => (hrow2.lt j hj).1)
        have hr3 : Row w3 w.heap.size (Frame.flat (ls.take (k + 1))) v' := by
          unfold Row
          rw [HTK.out, Frame.flat_snoc, ← HFL.out, ← HFS.out, List.length_append, List.map_append]
          exact hown3
        have hs3 : Hid (∀ z ∈ ls.take (k + 1), z.length ≤ 100) := fun z hz => by
          rw [HTK.out] at hz
          rcases List.mem_append.1 hz with hz | hz
          · exact HS.out z hz
          · simp only [List.mem_singleton] at hz
            rw [hz]
            exact hlong
        have HR3 := Lib.hid hr3
        clear hown3 hg3 hrow2 hnews hr3
        go_wp2
        go_roundw
        case rel => exact ⟨k + 1, by omega, by go_num, HR3.out, hs3, hb3⟩
        case measure => simp [intOf]; omega
      · go_wp2
        go_ret
        exact ⟨rfl, hb⟩
    · obtain rfl : k = n0 := by omega
      have htk : ls.take k = ls := List.take_of_length_le (by rw [E0.out]; exact Nat.le_refl _)
      rw [htk] at hrow HS
      have hfl := Frame.flat_le ls HS.out
      have hls : ∀ z ∈ ls, z.length ≤ 4096 := fun z hz => by have := HS.out z hz; omega
      have hlr : ∀ z ∈ ls, ∀ x ∈ z, 0 ≤ x ∧ x ≤ 255 := fun z hz => by
        obtain ⟨j, hj⟩ := List.mem_iff_getElem?.1 hz
        have hjl := (List.getElem?_eq_some_iff.1 hj).1
        obtain ⟨_, _, _, _, _, _, _, hr⟩ := H0.out.cell j hjl
        have hg : ls.getD j [] = z := by simp [List.getD, hj]
        rw [hg] at hr
        exact hr.hr
      have hflr := Frame.flat_range hls hlr
      have hfl2 : (Frame.flat ls).length ≤ 2000 := by have := E0.out; omega
      have hzl : zl.length ≤ 100 := by have := E1.out; omega
      have hff := Frame.frame_short_len zl hzl
      rw [← E1.out] at hff
      have hfr := Frame.frame_range (zs := zl) (by omega) H1.out.hr
      have SA := Lib.hid (Frame.scans_all ls zl hls (by omega))
      have SC := Lib.hid (fun j hj => Frame.scans_cut ls zl j hls (by omega) H1.out.hr hj)
      have SN := Lib.hid (fun rest hrest => Frame.scans_none ls rest hls hrest)
      have TO := Lib.hid (Frame.first_torn zl hzl H1.out.hr)
      have PUT := Lib.hid (framePut_any a1 n1 c1 zl wr E1.out (H1.out.below hb) (by omega))
      rw [hff] at PUT SA SC
      obtain ⟨fl, hfldef⟩ : ∃ fl, fl = Frame.flat ls := ⟨_, rfl⟩
      rw [← hfldef] at hrow hflr hfl2 SA SC SN
      obtain ⟨fs, hfsdef⟩ : ∃ fs, fs = Frame.frameOf zl := ⟨_, rfl⟩
      rw [← hfsdef] at PUT hff hfr SA SC TO
      obtain ⟨aA, cA, rfl, hhA, hnA, _, _, hgA⟩ := row_src hrow hflr (by omega)
      have HF := Lib.hid hff
      have HFR := Lib.hid hfr
      have HFLR := Lib.hid hflr
      have HNA := Lib.hid hnA
      have HB := Lib.hid hb
      have hbz := hb.size
      clear hfl hls hlr hflr hff hfr hfldef hfsdef hb hnA hrow htk hzl
      go_wp2_with fail
      with_reducible refine PUT.out.mono ?_
      rintro e w2 ⟨g, cF, rfl, hrf, hb2⟩
      clear PUT
      have hrf' : w2.ownsRow wr.heap.size 5 1 (.slice (some ⟨g, 0, none⟩) (n1 + 6) cF) (n1 + 6) (fs.map (Value.int .u8)) := by
        unfold Row at hrf
        rw [HF.out] at hrf
        exact hrf
      obtain ⟨g', cap', hge, hgw, hlay⟩ := lay_own hrf' (by omega)
      cases hge
      have hA2 := hhA.below hb2
      have hF2 := (hlay.reads HFR.out (by have := HF.out; omega))
      have hbw2 := HB.out.trans (hb2.mono hbz)
      have hb2z := hb2.size
      have hbL : Below w2.heap.size w2 (w2.alloc (.cells #[] 5)) := (Below.refl _ _).alloc (Nat.le_refl _) _
      have hlit : (w2.alloc (.cells #[] 5)).ownsRow w2.heap.size 5 1 (.slice (some ⟨w2.heap.size, 0, none⟩) 0 0) 0 [] := World.ownsRow_lit w2 #[] 0 (Nat.le_refl _) (by unfold maxLen; omega) rfl
      have hrowcap : n1 + 6 ≤ cF := by
        rcases hrf'.2 with ⟨he, _⟩ | ⟨g1, cap1, cur1, he, _, _, hc, _⟩
        · cases he
        · cases he; exact hc
      clear hrf hrf'
      go_wp2_with (at_builtin; go_loud (refine wpList_append_any _ rfl _ _ 22 rfl w2.heap.size 5 i0 (.int .u8 0) 1 Try.underlying22 hi hz0 hz1 hz2 rfl _ _ _ rfl hlit aA fl.length cA (fl.map (Value.int .u8)) rfl (by simp) HNA.out (reads_news (hA2.below hbL).reads) (ints_oneCell .u8 _) (by unfold maxLen; omega) (by omega) (by simp) ?_))
      intro v3 w3 hown3 hg3
      have hb3 := hbL.grown hg3 (by simp) (fun k hk => by simp [Value.ownBlock] at hk; omega)
      have hb3z := hb3.size
      clear hlit hbL
      go_wp2_with (at_builtin; go_loud (refine wpList_append_any _ rfl _ _ 22 rfl w2.heap.size 5 i0 (.int .u8 0) 1 Try.underlying22 hi hz0 hz1 hz2 rfl _ _ _ rfl hown3 (some ⟨g, 0, none⟩) (n1 + 6) cF (fs.map (Value.int .u8)) rfl (by rw [List.length_map, HF.out]) (fun h => by cases h) (reads_news (hF2.below hb3)) (ints_oneCell .u8 _) (by unfold maxLen; omega) (by omega) hb3z ?_))
      intro v4 w4 hown4 hg4
      have hb4 := hb3.grown hg4 hb3z (fun j hj => (hown3.lt j hj).1)
      have hrow4 : Row w4 w2.heap.size (fl ++ fs) v4 := by
        unfold Row
        rw [List.length_append, List.map_append, HF.out]
        simpa using hown4
      have SCAN := Lib.hid (scan_row hrow4 (fun x hx => by
        rcases List.mem_append.1 hx with hx | hx
        · exact HFLR.out x hx
        · exact HFR.out x hx) (by rw [List.length_append, HF.out]; omega) SA.out)
      have hb4z := hb4.size
      rw [show (ls ++ [zl]).length = k + 1 by rw [List.length_append, List.length_singleton, ← E0.out], show ((fl.length + (n1 + 6) : Nat) : Int) = (fl.length : Int) + ((n1 : Int) + 6) by omega] at SCAN
      clear hown3 hown4 hg3 hg4 hrow4 SA
      go_wp2_with fail
      with_reducible refine SCAN.out.mono ?_
      rintro e w5 ⟨a5, c5, rfl, hsl5, hb5⟩
      clear SCAN
      have B5 := hb4.trans (hb5.mono hb4z)
      have B5w := hbw2.trans (B5.mono (by have := hbw2.size; omega))
      have R5 := H0.out.below B5w
      have L5 := H1.out.below B5w
      have hb5z := B5w.size
      have hbM : Below w5.heap.size w5 (w5.alloc (.cells #[] 22)) := (Below.refl _ _).alloc (Nat.le_refl _) _
      have hlitM : (w5.alloc (.cells #[] 22)).ownsRow w5.heap.size 22 1 (.slice (some ⟨w5.heap.size, 0, none⟩) 0 0) 0 [] := World.ownsRow_lit w5 #[] 0 (Nat.le_refl _) (by unfold maxLen; omega) rfl
      clear hb4 hb5 hb4z hb3 hb3z
      go_wp2_with (at_builtin; go_loud (refine wpList_append_any _ rfl _ _ 28 rfl w5.heap.size 22 j0 (.slice none 0 0) 24 Try.underlying28 ji jz0 jz1 jz2 rfl _ _ _ rfl hlitM a0 k c0 vs rfl (by rw [H0.out.len, ← E0.out]) K0.out ((R5.below hbM).news) R5.one (by unfold maxLen; omega) (by omega) (by simp) ?_))
      intro v6 w6 hown6 hg6
      have hb6 := hbM.grown hg6 (by simp) (fun k hk => by simp [Value.ownBlock] at hk; omega)
      have hb6z := hb6.size
      clear hlitM hbM hg6
      go_wp2_with (at_builtin; go_loud (refine wpList_append_any _ rfl _ _ 28 rfl w5.heap.size 22 j0 (.slice none 0 0) 24 Try.underlying28 ji jz0 jz1 jz2 rfl _ _ _ rfl (hown6.alloc _) (some ⟨w6.heap.size, 0, none⟩) 1 1 [.slice a1 n1 c1] rfl rfl (fun h => by cases h) (fun ad e j u hj => by
        cases e
        match j, hj with
        | 0, hj => simp at hj; subst hj; simp [Addr.add]) (by simp [Value.oneCell']) (by unfold maxLen; omega) (by omega) (by simp; omega) ?_))
      intro v7 w7 hown7 hg7
      have hb7 := (hb6.alloc hb6z (.cells #[.slice a1 n1 c1] 22)).grown hg7 (by simp; omega) (fun j hj => (hown6.lt j hj).1)
      have R7 := R5.below hb7
      have L7 := L5.below hb7
      obtain ⟨a7, c7, rfl, hsl7⟩ := own_slices (ls := ls ++ [zl]) (n := k + 1) (vs := vs ++ [.slice a1 n1 c1]) hown7 (by rw [List.length_append, List.length_singleton, ← E0.out]) (fun i hi => by
        rw [List.length_append, List.length_singleton] at hi
        have hvl := H0.out.len
        by_cases hil : i < ls.length
        · obtain ⟨x, A, C, _, _, _, hv, hr⟩ := R7.cell i hil
          have eg : (ls ++ [zl]).getD i [] = ls.getD i [] := by simp only [List.getD]; rw [List.getElem?_append_left hil]
          refine ⟨A, C, ?_, by rw [eg]; exact hr⟩
          rw [eg, List.getElem?_append_left (by omega)]
          exact hv
        · obtain rfl : i = ls.length := by omega
          have eg : (ls ++ [zl]).getD ls.length [] = zl := by simp [List.getD]
          refine ⟨a1, c1, ?_, by rw [eg]; exact L7⟩
          rw [eg, List.getElem?_append_right (by omega), ← hvl, Nat.sub_self, ← E1.out]
          rfl)
      have hb7z := hb7.size
      have SM := Lib.hid (same_any a5 (k + 1) c5 (ls ++ [zl]) a7 (k + 1) c7 (ls ++ [zl]) w7 (hsl5.below hb7) (by rw [List.length_append, List.length_singleton, ← E0.out]) hsl7 (by rw [List.length_append, List.length_singleton, ← E0.out]) (by omega) (by omega))
      rw [decide_eq_true rfl] at SM
      clear hown6 hown7 hg7 hsl7 hsl5 R7 L7 R5 L5 hb6 hb6z
      go_wp2_with fail
      with_reducible refine SM.out.mono ?_
      rintro e w8 ⟨rfl, hb8⟩
      clear SM
      have hbA := B5.trans (hb7.mono (by have := B5.size; omega))
      have B8 := hbA.trans (hb8.mono (by have := hbA.size; omega))
      clear B5 B5w hbA hb7 hb7z hb8 hb5z
      go_wp2_with fail
      obtain ⟨jc, hjc⟩ : ∃ jc, jc = cut % (n1 + 6) := ⟨_, rfl⟩
      have hjl : jc < n1 + 6 := by rw [hjc]; exact Nat.mod_lt _ (by omega)
      have hjF : jc ≤ cF := by omega
      have hmodc : (cut : Int) % ((n1 : Int) + 6) = (jc : Int) := by rw [hjc, Int.natCast_emod]; rfl
      have hmodt : (cut : Int).tmod ((n1 : Int) + 6) = (jc : Int) := by rw [Int.tmod_eq_emod_of_nonneg (by omega)]; exact hmodc
      have hne6 : ¬ ((n1 : Int) + 6 = 0) := by omega
      have hjc1 : 0 ≤ (jc : Int) ∧ (jc : Int) ≤ (cF : Int) := by omega
      clear hjc
      refine wp_region_held_drew (S := fun _ => True) (by kernel_rfl) trivial (fun hHeld => ?_)
      refine wpAnyH_take (i := 1) (oi := ?_) (v := ?_) ?_ (by kernel_rfl) (by kernel_rfl) (by kernel_rfl) ?_ (Or.inl ⟨?_, ?_⟩) (by assumption) ?_
      rotate_left 2
      focus (simp only [List.getElem?_toArray, List.getElem?_cons_succ, List.getElem?_cons_zero]; rfl)
      focus exact fun _ _ _ h => h
      focus rfl
      focus (intro W hS; (try dsimp only at hS); go_simp; (try with_reducible rfl))
      try simp only [Act.put]
      try simp only [List.setIfInBounds_toArray]
      try simp only [List.set_cons_succ]
      try simp only [List.set_cons_zero]
      refine wpAnyH_take (i := 3) (oi := ?_) (v := ?_) ?_ (by kernel_rfl) (by kernel_rfl) (by kernel_rfl) ?_ (Or.inl ⟨?_, ?_⟩) (by assumption) ?_
      rotate_left 2
      focus (simp only [List.getElem?_toArray, List.getElem?_cons_succ, List.getElem?_cons_zero]; rfl)
      focus exact fun _ _ _ h => h
      focus rfl
      focus (intro W hS; (try dsimp only at hS); go_simp; (try with_reducible rfl))
      try simp only [Act.put]
      try simp only [List.setIfInBounds_toArray]
      try simp only [List.set_cons_succ]
      try simp only [List.set_cons_zero]
      refine wpAnyH_take (i := 4) (oi := ?_) (v := ?_) ?_ (by kernel_rfl) (by kernel_rfl) (by kernel_rfl) ?_ (Or.inl ⟨?_, ?_⟩) (by assumption) ?_
      rotate_left 2
      focus (simp only [List.getElem?_toArray, List.getElem?_cons_succ, List.getElem?_cons_zero]; rfl)
      focus exact fun _ _ _ h => h
      focus rfl
      focus (intro W hS; (try dsimp only at hS); go_simp; (try with_reducible rfl))
      try simp only [Act.put]
      try simp only [List.setIfInBounds_toArray]
      try simp only [List.set_cons_succ]
      try simp only [List.set_cons_zero]
      refine wpAnyH_take (i := 5) (oi := ?_) (v := ?_) ?_ (by kernel_rfl) (by kernel_rfl) (by kernel_rfl) ?_ (Or.inl ⟨?_, ?_⟩) (by assumption) ?_
      rotate_left 2
      focus (simp only [List.getElem?_toArray, List.getElem?_cons_succ, List.getElem?_cons_zero]; rfl)
      focus exact fun _ _ _ h => h
      focus rfl
      focus (intro W hS; (try dsimp only at hS); go_simp; (try with_reducible rfl))
      try simp only [Act.put]
      try simp only [List.setIfInBounds_toArray]
      try simp only [List.set_cons_succ]
      try simp only [List.set_cons_zero]
      refine wpAnyH_take (i := 6) (oi := ?_) (v := ?_) ?_ (by kernel_rfl) (by kernel_rfl) (by kernel_rfl) ?_ (Or.inl ⟨?_, ?_⟩) (by assumption) ?_
      rotate_left 2
      focus (simp only [List.getElem?_toArray, List.getElem?_cons_succ, List.getElem?_cons_zero]; rfl)
      focus exact fun _ _ _ h => h
      focus rfl
      focus (intro W hS; (try dsimp only at hS); go_simp; (try with_reducible rfl))
      try simp only [Act.put]
      try simp only [List.setIfInBounds_toArray]
      try simp only [List.set_cons_succ]
      try simp only [List.set_cons_zero]
      refine wpAnyH_take (i := 7) (oi := ?_) (v := ?_) ?_ (by kernel_rfl) (by kernel_rfl) (by kernel_rfl) ?_ (Or.inl ⟨?_, ?_⟩) (by assumption) ?_
      rotate_left 2
      focus (simp only [List.getElem?_toArray, List.getElem?_cons_succ, List.getElem?_cons_zero]; rfl)
      focus exact fun _ _ _ h => h
      focus rfl
      focus (intro W hS; (try dsimp only at hS); go_simp; (try with_reducible rfl))
      try simp only [Act.put]
      try simp only [List.setIfInBounds_toArray]
      try simp only [List.set_cons_succ]
      try simp only [List.set_cons_zero]
      refine wpAnyH_take (i := 8) (oi := ?_) (v := ?_) ?_ (by kernel_rfl) (by kernel_rfl) (by kernel_rfl) ?_ (Or.inl ⟨?_, ?_⟩) (by assumption) ?_
      rotate_left 2
      focus (simp only [List.getElem?_toArray, List.getElem?_cons_succ, List.getElem?_cons_zero]; rfl)
      focus exact fun _ _ _ h => h
      focus rfl
      focus (intro W hS; (try dsimp only at hS); go_simp; (try with_reducible rfl))
      try simp only [Act.put]
      try simp only [List.setIfInBounds_toArray]
      try simp only [List.set_cons_succ]
      try simp only [List.set_cons_zero]
      have B8d : Below w2.heap.size w2 w8.drew := B8.drew
      generalize w8.drew = w9 at *
      have hb9z := B8d.size
      refine wpAnyH_ready (rs := [0]) (by kernel_rfl) (by simp) ?_
      refine AllReadyH.cons (o := ?_) ?_ (fun K hK => ?_) AllReadyH.nil
      rotate_left
      focus (simp only [List.getElem?_toArray, List.getElem?_cons_zero]; rfl)
      rw [if_pos (by rfl)]
      go_simp
      refine hK.out _ _ trivial (fun hHeld => ?_)
      clear hK K
      try simp only [Act.put]
      try simp only [List.setIfInBounds_toArray]
      try simp only [List.set_cons_succ]
      try simp only [List.set_cons_zero]
      have hbL : Below w9.heap.size w9 (w9.alloc (.cells #[] 5)) := (Below.refl _ _).alloc (Nat.le_refl _) _
      have hlit : (w9.alloc (.cells #[] 5)).ownsRow w9.heap.size 5 1 (.slice (some ⟨w9.heap.size, 0, none⟩) 0 0) 0 [] := World.ownsRow_lit w9 #[] 0 (Nat.le_refl _) (by unfold maxLen; omega) rfl
      have hA9 := (hA2.below B8d).below hbL
      have hF9 := ((hF2.below B8d).below hbL).take jc
      obtain ⟨v10, w10, hrun10, hown10, hg10⟩ := run_append_any (P := Try.prog) _ w9.heap.size 22 22 5 i0 (.int .u8 0) 1 Try.underlying22 hi hz0 hz1 hz2 rfl _ _ _ hlit aA fl.length cA (fl.map (Value.int .u8)) (by simp) HNA.out (reads_news hA9.reads) (ints_oneCell .u8 _) (by unfold maxLen; omega) (by omega) (by simp)
      refine wpAnyH_ready (rs := [2]) (by kernel_rfl) (by simp) ?_
      refine AllReadyH.cons (o := ?_) ?_ (fun K hK => ?_) AllReadyH.nil
      rotate_left
      focus (simp only [List.getElem?_toArray, List.getElem?_cons_succ, List.getElem?_cons_zero]; rfl)
      rw [if_pos (by rfl)]
      refine Lib.wp_append_run _ _ _ _ _ rfl _ _ rfl rfl _ _ hrun10 ?_
      refine hK.out _ _ trivial (fun hHeld => ?_)
      clear hK K
      try simp only [Act.put]
      try simp only [List.setIfInBounds_toArray]
      try simp only [List.set_cons_succ]
      try simp only [List.set_cons_zero]
      clear hrun10
      have hb10 := hbL.grown hg10 (by simp) (fun k hk => by simp [Value.ownBlock] at hk; omega)
      have hb10z := hb10.size
      have hF10 := ((hF2.below B8d).below hb10).take jc
      have hjt : (fs.take jc).length = jc := by rw [List.length_take, HF.out]; omega
      obtain ⟨v11, w11, hrun11, hown11, hg11⟩ := run_append_any (P := Try.prog) _ w9.heap.size 22 22 5 i0 (.int .u8 0) 1 Try.underlying22 hi hz0 hz1 hz2 rfl _ _ _ hown10 (some ⟨g, 0, none⟩) jc cF ((fs.take jc).map (Value.int .u8)) (by rw [List.length_map, hjt]) (fun h => by cases h) (reads_news hF10) (ints_oneCell .u8 _) (by unfold maxLen; omega) (by omega) hb10z
      refine wpAnyH_ready (rs := [9]) (by kernel_rfl) (by simp) ?_
      refine AllReadyH.cons (o := ?_) ?_ (fun K hK => ?_) AllReadyH.nil
      rotate_left
      focus (simp only [List.getElem?_toArray, List.getElem?_cons_succ, List.getElem?_cons_zero]; rfl)
      rw [if_pos (by rfl)]
      refine Lib.wp_append_run _ _ _ _ _ rfl _ _ rfl rfl _ _ hrun11 ?_
      refine hK.out _ _ trivial (fun hHeld => ?_)
      clear hK K
      try simp only [Act.put]
      try simp only [List.setIfInBounds_toArray]
      try simp only [List.set_cons_succ]
      try simp only [List.set_cons_zero]
      clear hrun11
      have hb11 := hb10.grown hg11 hb10z (fun j hj => (hown10.lt j hj).1)
      have hrow11 : Row w11 w9.heap.size (fl ++ fs.take jc) v11 := by
        unfold Row
        rw [List.length_append, List.map_append, hjt]
        simpa using hown11
      have SCAN2 := Lib.hid (scan_row hrow11 (fun x hx => by
        rcases List.mem_append.1 hx with hx | hx
        · exact HFLR.out x hx
        · exact HFR.out x (List.mem_of_mem_take hx)) (by rw [List.length_append, hjt]; omega) (SC.out jc hjl))
      have B11 := B8d.trans (hb11.mono hb9z)
      rw [← E0.out] at SCAN2
      clear hown10 hown11 hg10 hg11 hrow11 SC hlit hbL hA9 hF9 hF10 hb10 hb11
      refine wpAnyH_ready (rs := [10]) (by kernel_rfl) (by simp) ?_
      refine AllReadyH.cons (o := ?_) ?_ (fun K hK => ?_) AllReadyH.nil
      rotate_left
      focus (simp only [List.getElem?_toArray, List.getElem?_cons_succ, List.getElem?_cons_zero]; rfl)
      rw [if_pos (by rfl)]
      go_simp
      with_reducible refine SCAN2.out.mono ?_
      rintro e w12 ⟨a12, c12, rfl, hsl12, hb12⟩
      have B12 := B11.trans (hb12.mono (by have := B11.size; omega))
      clear SCAN2 hb12 B11
      go_wp2_with fail
      refine hK.out _ _ trivial (fun hHeld => ?_)
      clear hK K
      try simp only [Act.put]
      try simp only [List.setIfInBounds_toArray]
      try simp only [List.set_cons_succ]
      try simp only [List.set_cons_zero]
      refine wpAnyH_take (i := 11) (oi := ?_) (v := ?_) ?_ (by kernel_rfl) (by kernel_rfl) (by kernel_rfl) ?_ (Or.inl ⟨?_, ?_⟩) (by assumption) ?_
      rotate_left 2
      focus (simp only [List.getElem?_toArray, List.getElem?_cons_succ, List.getElem?_cons_zero]; rfl)
      focus exact fun _ _ _ h => h
      focus rfl
      focus (intro W hS; (try dsimp only at hS); go_simp; (try with_reducible rfl))
      try simp only [Act.put]
      try simp only [List.setIfInBounds_toArray]
      try simp only [List.set_cons_succ]
      try simp only [List.set_cons_zero]
      refine wpAnyH_take (i := 12) (oi := ?_) (v := ?_) ?_ (by kernel_rfl) (by kernel_rfl) (by kernel_rfl) ?_ (Or.inl ⟨?_, ?_⟩) (by assumption) ?_
      rotate_left 2
      focus (simp only [List.getElem?_toArray, List.getElem?_cons_succ, List.getElem?_cons_zero]; rfl)
      focus exact fun _ _ _ h => h
      focus rfl
      focus (intro W hS; (try dsimp only at hS); go_simp; (try with_reducible rfl))
      try simp only [Act.put]
      try simp only [List.setIfInBounds_toArray]
      try simp only [List.set_cons_succ]
      try simp only [List.set_cons_zero]
      refine wpAnyH_take (i := 13) (oi := ?_) (v := ?_) ?_ (by kernel_rfl) (by kernel_rfl) (by kernel_rfl) ?_ (Or.inl ⟨?_, ?_⟩) (by assumption) ?_
      rotate_left 2
      focus (simp only [List.getElem?_toArray, List.getElem?_cons_succ, List.getElem?_cons_zero]; rfl)
      focus exact fun _ _ _ h => h
      focus rfl
      focus (intro W hS; (try dsimp only at hS); go_simp; (try with_reducible rfl))
      try simp only [Act.put]
      try simp only [List.setIfInBounds_toArray]
      try simp only [List.set_cons_succ]
      try simp only [List.set_cons_zero]
      refine wpAnyH_take (i := 14) (oi := ?_) (v := ?_) ?_ (by kernel_rfl) (by kernel_rfl) (by kernel_rfl) ?_ (Or.inl ⟨?_, ?_⟩) (by assumption) ?_
      rotate_left 2
      focus (simp only [List.getElem?_toArray, List.getElem?_cons_succ, List.getElem?_cons_zero]; rfl)
      focus exact fun _ _ _ h => h
      focus rfl
      focus (intro W hS; (try dsimp only at hS); go_simp; (try with_reducible rfl))
      try simp only [Act.put]
      try simp only [List.setIfInBounds_toArray]
      try simp only [List.set_cons_succ]
      try simp only [List.set_cons_zero]
      refine wpAnyH_take (i := 15) (oi := ?_) (v := ?_) ?_ (by kernel_rfl) (by kernel_rfl) (by kernel_rfl) ?_ (Or.inl ⟨?_, ?_⟩) (by assumption) ?_
      rotate_left 2
      focus (simp only [List.getElem?_toArray, List.getElem?_cons_succ, List.getElem?_cons_zero]; rfl)
      focus exact fun _ _ _ h => h
      focus rfl
      focus (intro W hS; (try dsimp only at hS); go_simp; (try with_reducible rfl))
      try simp only [Act.put]
      try simp only [List.setIfInBounds_toArray]
      try simp only [List.set_cons_succ]
      try simp only [List.set_cons_zero]
      refine wpAnyH_done (by kernel_rfl) ?_ _
      have R12 := H0.out.below (hbw2.trans (B12.mono (by have := hbw2.size; omega)))
      have SM2 := Lib.hid (same_any a12 k c12 ls a0 k c0 ls w12 hsl12 E0.out R12.slices E0.out (by omega) (by omega))
      rw [decide_eq_true rfl] at SM2
      have hb12z := B12.size
      clear hsl12 R12 hmodc hmodt hjc1 hne6 hjl
      go_wp2_with fail
      with_reducible refine SM2.out.mono ?_
      rintro e w13 ⟨rfl, hb13⟩
      clear SM2
      have B13 := B12.trans (hb13.mono hb12z)
      clear B12 hb13 hb12z hb9z B8d
      obtain ⟨p, hp⟩ : ∃ p, p = at0 % (8 * n1 + 1) := ⟨_, rfl⟩
      have hpl : p ≤ 8 * n1 := by have := Nat.mod_lt at0 (show 0 < 8 * n1 + 1 by omega); omega
      have hm1 : (at0 : Int) % (8 * ((n1 : Int) + 4) - 31) = (p : Int) := by rw [hp, Int.natCast_emod]; congr 1; omega
      have hm2 : (at0 : Int).tmod (8 * ((n1 : Int) + 4) - 31) = (p : Int) := by rw [Int.tmod_eq_emod_of_nonneg (by omega)]; exact hm1
      have hm3 : ¬ (8 * ((n1 : Int) + 4) - 31 = 0) := by omega
      clear hp
      have L13 := Lib.hid (hlay.below B13)
      have BW := hb2.trans (B13.mono hb2z)
      have HBW0 := HB.out
      clear hlay hA2 hF2 B13 hb2 hb2z hbw2 B8
      generalize wr = W0 at *
      go_wp2_with fail
      first | rw [hm1] | rw [hm2] | skip
      clear hm1 hm2 hm3
      have hgW := hgw
      go_loopw [22] (fun j wq => ∃ (i : Nat) (cs : List Int), i ≤ 32 ∧ j = .int .i64 (i : Int) ∧ LayB wq g cs ∧ Spoilt fs (16 + p) mask i cs ∧ Below W0.heap.size W0 wq) (fun j _ => 32 - (intOf j).toNat)
      case atStart => exact ⟨0, fs, by omega, rfl, L13.out, Spoilt.start HFR.out (16 + p) mask, BW⟩
      case round =>
        clear BW L13
        obtain ⟨i, cs, hi32, rfl, hlay, hsp, hbel⟩ := hrel
        have HL := Lib.hid hlay
        have HS2 := Lib.hid hsp
        clear hlay hsp
        by_cases h32 : i = 32
        · subst h32
          have hcl : cs.length = n1 + 6 := by rw [HS2.out.len, HF.out]
          have hzbl : zb.length ≤ 20 := by have := E2.out; omega
          have hAr := hhA.below hbel
          have Br := HBW0.trans (hbel.mono hbz)
          have hFr := HL.out.reads HS2.out.hr (by omega)
          have hBr := H2.out.below Br
          have hrange : ∀ x ∈ fl ++ cs ++ zb, 0 ≤ x ∧ x ≤ 255 := fun x hx => by
            rcases List.mem_append.1 hx with hx | hx
            · rcases List.mem_append.1 hx with hx | hx
              · exact HFLR.out x hx
              · exact HS2.out.hr x hx
            · exact H2.out.hr x hx
          obtain ⟨l, gd, hscan⟩ := Frame.Scans.exist (fl ++ cs ++ zb).length (fl ++ cs ++ zb) (Nat.le_refl _) hrange
          have hspoilt : mask ≠ 0 → p + 32 ≤ 8 * n1 → l = ls ∧ gd = fl.length := fun hm hp => by
            have h1 := TO.out p mask (by rw [← E1.out]; exact hp) bm hm cs zb HS2.out
            have h2 := SN.out (cs ++ zb) h1
            rw [← List.append_assoc] at h2
            exact hscan.one h2
          have hgl := hscan.le hrange
          have hlb : (fl ++ cs ++ zb).length ≤ 3000 := by rw [List.length_append, List.length_append]; omega
          have HRANGE := Lib.hid hrange
          have HSC := Lib.hid hscan
          have HSP := Lib.hid hspoilt
          have HCL := Lib.hid hcl
          have hgl2 : l.length ≤ 3000 ∧ gd ≤ 3000 := by omega
          clear hrange hscan hspoilt hcl hgl hlb HL HS2 hbel
          have hbL : Below wr.heap.size wr (wr.alloc (.cells #[] 5)) := (Below.refl _ _).alloc (Nat.le_refl _) _
          have hlit : (wr.alloc (.cells #[] 5)).ownsRow wr.heap.size 5 1 (.slice (some ⟨wr.heap.size, 0, none⟩) 0 0) 0 [] := World.ownsRow_lit wr #[] 0 (Nat.le_refl _) (by unfold maxLen; omega) rfl
          go_wp2_with (at_builtin; go_loud (refine wpList_append_any _ rfl _ _ 22 rfl wr.heap.size 5 i0 (.int .u8 0) 1 Try.underlying22 hi hz0 hz1 hz2 rfl _ _ _ rfl hlit aA fl.length cA (fl.map (Value.int .u8)) rfl (by simp) HNA.out (reads_news (hAr.below hbL).reads) (ints_oneCell .u8 _) (by unfold maxLen; omega) (by omega) (by simp) ?_))
          intro v3 w3 hown3 hg3
          have hb3 := hbL.grown hg3 (by simp) (fun k hk => by simp [Value.ownBlock] at hk; omega)
          have hb3z := hb3.size
          clear hlit hbL
          go_wp2_with (at_builtin; go_loud (refine wpList_append_any _ rfl _ _ 22 rfl wr.heap.size 5 i0 (.int .u8 0) 1 Try.underlying22 hi hz0 hz1 hz2 rfl _ _ _ rfl hown3 (some ⟨g, 0, none⟩) (n1 + 6) cF (cs.map (Value.int .u8)) rfl (by rw [List.length_map, HCL.out]) (fun h => by cases h) (reads_news (hFr.below hb3)) (ints_oneCell .u8 _) (by unfold maxLen; omega) (by omega) hb3z ?_))
          intro v4 w4 hown4 hg4
          have hb4 := hb3.grown hg4 hb3z (fun j hj => (hown3.lt j hj).1)
          have hb4z := hb4.size
          go_wp2_with (at_builtin; go_loud (refine wpList_append_any _ rfl _ _ 22 rfl wr.heap.size 5 i0 (.int .u8 0) 1 Try.underlying22 hi hz0 hz1 hz2 rfl _ _ _ rfl hown4 a2 n2 c2 (zb.map (Value.int .u8)) rfl (by rw [List.length_map, E2.out]) K2.out (reads_news (hBr.below hb4)) (ints_oneCell .u8 _) (by unfold maxLen; omega) (by omega) hb4z ?_))
          intro v5 w5 hown5 hg5
          have hb5 := hb4.grown hg5 hb4z (fun j hj => (hown4.lt j hj).1)
          have hrow5 : Row w5 wr.heap.size (fl ++ cs ++ zb) v5 := by
            unfold Row
            rw [List.length_append, List.length_append, List.map_append, List.map_append, HCL.out, ← E2.out]
            simpa using hown5
          have SCAN := Lib.hid (scan_row hrow5 HRANGE.out (by rw [List.length_append, List.length_append, HCL.out]; omega) HSC.out)
          have B5 := Br.trans (hb5.mono (by have := Br.size; omega))
          clear hown3 hown4 hown5 hg3 hg4 hg5 hrow5 hb3 hb4 hb5 hb3z hb4z hFr hBr hAr
          go_wp2_with fail
          with_reducible refine SCAN.out.mono ?_
          rintro e w6 ⟨a6, c6, rfl, hsl6, hb6⟩
          clear SCAN
          have B6 := B5.trans (hb6.mono (by have := B5.size; omega))
          have hb6z := B6.size
          by_cases hm0 : mask = 0
          · subst hm0
            go_wp2
            go_ret
            exact ⟨rfl, B6⟩
          · by_cases hp32 : 8 * n1 < p + 32
            · go_wp2
              go_ret
              exact ⟨rfl, B6⟩
            · obtain ⟨rfl, rfl⟩ := HSP.out hm0 (by omega)
              have SM3 := Lib.hid (same_any a6 k c6 l a0 k c0 l w6 hsl6 E0.out (H0.out.below B6).slices E0.out (by omega) (by omega))
              rw [decide_eq_true rfl] at SM3
              rw [← E0.out]
              go_wp2_with fail
              with_reducible refine SM3.out.mono ?_
              rintro e w7 ⟨rfl, hb7⟩
              have B7 := B6.trans (hb7.mono hb6z)
              go_wp2
              go_ret
              exact ⟨rfl, B7⟩
        · have hlt32 : i < 32 := by omega
          cases hbit : mask.testBit i with
          | false =>
            have hq := mask_clear mask i bm hbit
            have HBI := Lib.hid hbit
            clear hbit
            go_wp2
            go_roundw
            case rel => exact ⟨i + 1, cs, by omega, by go_num, HL.out, HS2.out.skip HBI.out, hbel⟩
            case measure => simp [intOf]; omega
          | true =>
            have hq := mask_set mask i bm hbit
            have HBI := Lib.hid hbit
            clear hbit
            have hj : 2 + (p + i) / 8 < cs.length := by have := HS2.out.len; have := HF.out; omega
            have hcell := HL.out.cell _ hj
            have hfree := HL.out.free (2 + (p + i) / 8)
            have hv := getD_range HS2.out.hr (2 + (p + i) / 8)
            obtain ⟨v, hvv⟩ : ∃ v : Nat, cs.getD (2 + (p + i) / 8) 0 = v := ⟨(cs.getD (2 + (p + i) / 8) 0).toNat, by omega⟩
            have hjn : (p + i) / 8 < n1 + 4 := by omega
            rw [hvv] at hcell hv
            have HV := Lib.hid hvv
            clear hvv hj
            have hx := byte_turn v ((p + i) % 8) (by omega) (Nat.mod_lt _ (by decide))
            have hst := HL.out.store (2 + (p + i) / 8) ((v ^^^ 2 ^ ((p + i) % 8) : Nat) : Int)
            have hsp := HS2.out.turn HBI.out v (by rw [show (16 + p + i) / 8 = 2 + (p + i) / 8 by omega]; exact HV.out) (by omega)
            rw [show (16 + p + i) / 8 = 2 + (p + i) / 8 by omega, show (16 + p + i) % 8 = (p + i) % 8 by omega] at hsp
            generalize v ^^^ 2 ^ ((p + i) % 8) = u at *
            generalize cs.set (2 + (p + i) / 8) (u : Int) = cs2 at *
            have HST := Lib.hid hst
            have HSP := Lib.hid hsp
            clear hst hsp
            go_wp2
            go_roundw
            case rel => exact ⟨i + 1, cs2, by omega, by go_num, HST.out, HSP.out, hbel.setCell (p := ⟨g, 2 + (p + i) / 8, none⟩) hgW _⟩
            case measure => simp [intOf]; omega

end Go.Proofs.Ytlebeegcdadgiaa
