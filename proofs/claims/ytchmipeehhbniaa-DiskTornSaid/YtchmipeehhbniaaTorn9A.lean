/- DiskTorn, what it stands on: rows that come in, a row behind the log. -/
import Derived.Test.YtchmipeehhbniaaTorn9S
import Derived.Deep.CutRange
import Derived.Deep.Cut
import Derived.Deep.QuietTactic
import Derived.BigQuiet
namespace Go.Proofs.Ytchmipeehhbniaa
open Go.RowKit Go.Maps Dsk

/-- rows of bytes that came in -/
def Rows9 (w : World) (a : Option Addr) (ls : List (List Int)) : Prop :=
  ∀ i, i < ls.length → ∃ x A C, a = some x ∧ x.block < w.heap.size ∧ w.cell? (x.add i) = some (.slice A (ls.getD i []).length C) ∧ Reads w A (ls.getD i []) ∧ (A = none → C = 0)

theorem Rows9.below {w w' : World} {a : Option Addr} {ls : List (List Int)} (h : Rows9 w a ls) (hb : Below w.heap.size w w') : Rows9 w' a ls := fun i hi => by
  obtain ⟨x, A, C, hx, hlt, hc, hr, hn⟩ := h i hi
  exact ⟨x, A, C, hx, Nat.lt_of_lt_of_le hlt hb.size, (hb.cell (p := x.add i) (by rw [add_block]; exact hlt)).trans hc, hr.below hb, hn⟩

/-- a row behind the log -/
theorem append_log (g B N : Nat) (o : Tags) (synced : Int) (k : Nat) (all : List Int) (s : Nat) (lo : Option Fil) (a : Option Addr) (cap : Nat) (zs : List Int) (w : World) (hl : LogIs synced k all s lo) (hd : DiskAt w B o g (T none none lo) N) (hN : N ≤ 1) (hN0 : lo = none → N = 0)
    (hp : Reads w a zs) (hna : a = none → cap = 0) (hzl : zs.length ≤ 60) (hal : all.length ≤ 60 * k) (hk : k ≤ 20) (hBw : B ≤ w.heap.size) :
    Calls Try.prog 9 #[.pointer (some ⟨g, 0, none⟩), .string ⟨nL.toArray⟩, .slice a zs.length cap] w fun e w' => e = .returned (.int .i64 0) ∧
      ∃ o' F, LogMid synced k (all ++ zs) s F ∧ DiskAt w' B o' g (T none none (some F)) 1 ∧ Step o w o' w' := by
  rcases hl.parts with ⟨h1, h2, h3, h4⟩ | ⟨F, h1, h2, h3, h4, h5⟩
  · subst h1 h2 h4
    obtain rfl := hN0 rfl
    refine (append_new g B 0 o (T none none none) nL a cap zs w hd hp hna rfl (by omega) (by decide) (by decide) (by decide) (fun l f h => (good_none l f h).2) hBw).mono ?_
    rintro e w' ⟨rfl, o', hd', hst⟩
    rw [upd_L, at_L] at hd'
    exact ⟨rfl, o', _, .inl ⟨rfl, h3, rfl⟩, hd', hst⟩
  · subst h1
    have hm : (T none none (some F)).at nL = F := by rw [at_L]; rfl
    refine (append_there g B N o (T none none (some F)) nL a cap zs w hd hp hna (by rw [hm]; exact h2) (by rw [hm, h3]; omega) (by decide) (by decide) (by omega) (by rw [hm]; omega) hBw).mono ?_
    rintro e w' ⟨rfl, o', hd', hst⟩
    rw [upd_L, hm, cntN_has N (by rw [T_L]; rfl)] at hd'
    exact ⟨rfl, o', _, h5 zs, hd'.mono hN, hst⟩

theorem DiskAt.grown {w w' : World} {B : Nat} {o : Tags} {g N : Nat} {M : Files} {row : Option Nat} (h : DiskAt w B o g M N) (hg : w.grownBy w' row) (hr : ∀ k, row = some k → o k = none) : DiskAt w' B o g M N := by
  obtain ⟨b, D, h⟩ := h
  exact ⟨b, D, h.same hg.size fun k e => hg.block k (h.own k e).2 fun e' => e (hr k e'.symm)⟩

/-- a row of one's own that has grown -/
theorem RowF.grown {w w' : World} {B : Nat} {o : Tags} {zs ys : List Int} {v v' : Value} (h : RowF w B o zs v) (ho : ∀ k, o k ≠ none → k < w.heap.size) (hr : Row w' B ys v') (hl : v'.ownBlock = v.ownBlock ∨ v'.ownBlock = some w.heap.size) : RowF w' B o ys v' :=
  ⟨hr, fun k e => by
    rcases hl with h1 | h1
    · exact h.2 k (by rw [← h1]; exact e)
    · rw [h1] at e
      cases e
      cases e' : o w.heap.size with
      | none => rfl
      | some t => exact absurd (ho _ (by rw [e']; simp)) (Nat.lt_irrefl _)⟩

/-- the log is sure -/
theorem sync_log (g B : Nat) (o : Tags) (synced : Int) (k : Nat) (all : List Int) (s : Nat) (F : Fil) (w : World) (hl : LogMid synced k all s F) (hk : (k : Int) ≤ synced) (hd : DiskAt w B o g (T none none (some F)) 1) :
    Calls Try.prog 12 #[.pointer (some ⟨g, 0, none⟩), .string ⟨nL.toArray⟩] w fun e w' => e = .returned (.int .i64 0) ∧
      ∃ o' lo, LogIs synced (k + 1) all all.length lo ∧ lo ≠ none ∧ DiskAt w' B o' g (T none none lo) 1 ∧ Step o w o' w' := by
  have hm : (T none none (some F)).at nL = F := by rw [at_L]; rfl
  refine (sync_any g B 1 o (T none none (some F)) nL w hd (by rw [T_L]; rfl) (by decide) (by decide) (by decide) (by rw [hm]; have := hl.now.2.2; omega)).mono ?_
  rintro e w' ⟨rfl, o', hd', hst⟩
  rw [upd_L, hm] at hd'
  exact ⟨rfl, o', _, hl.sync hk, by simp [settled, hl.now.1], hd', hst⟩

set_option maxRecDepth 100000 in
set_option maxHeartbeats 20000000 in
theorem torn_law (a0 : Option Addr) (cap0 : Nat) (ls : List (List Int)) (synced : Int) (a2 : Option Addr) (cap2 : Nat) (zs : List Int) (stay other : Int) (w : World) (R0 : Rows9 w a0 ls) (hp : Reads w a2 zs) (hn2 : a2 = none → cap2 = 0)
    (hsy : -9223372036854775808 ≤ synced ∧ synced ≤ 9223372036854775807) (hst : -9223372036854775808 ≤ stay ∧ stay ≤ 9223372036854775807) (hot : -9223372036854775808 ≤ other ∧ other ≤ 9223372036854775807) (hl : ls.length ≤ 20) (hz : zs.length ≤ 60) :
    Calls Try.prog 4 #[.slice a0 ls.length cap0, .int .i64 synced, .slice a2 zs.length cap2, .int .i64 stay, .int .i64 other] w fun e w' => e = .returned (.bool true) ∧ Below w.heap.size w w' := by
  have HK := Lib.hid (known9_any w)
  have HR0 := Lib.hid R0
  have HP := Lib.hid hp
  have HN2 := Lib.hid hn2
  have HSY := Lib.hid hsy
  have HST := Lib.hid hst
  have HOT := Lib.hid hot
  have HZ := Lib.hid hz
  obtain ⟨i0, hi, hz0, hz1, hz2⟩ := info_parts info5
  have d1 : decide (20 < (ls.length : Int)) = false := by simp; omega
  have d2 : decide (60 < (zs.length : Int)) = false := by simp; omega
  clear R0 hp hn2 hst hot hz
  go_enter Try.func4, Try.ntmps4
  go_wp2_with fail
  refine HK.out.mono ?_
  rintro e w1 ⟨rfl, hb1⟩
  have HB1 := Lib.hid hb1
  clear hb1 HK
  go_wp2_with fail
  refine (new_any w1).mono ?_
  rintro e w2 ⟨rfl, hb2, o2, hd2, _⟩
  rw [T_none] at hd2
  have HB2 := Lib.hid hb2
  have HD2 := Lib.hid hd2
  clear hb2 hd2
  go_wp2_with fail
  clear d1 d2
  go_loopw [12, 13, 14] (fun av sv iv wr => ∃ (k : Nat) (a : Option Addr) (c s N : Nat) (all : List Int) (lo : Option Fil) (o : Tags), k ≤ ls.length ∧ av = .slice a all.length c ∧ sv = .int .i64 s ∧ iv = .int .i64 k ∧ all.length ≤ 60 * k ∧ (∀ x ∈ all, 0 ≤ x ∧ x ≤ 255) ∧
      LogIs synced k all s lo ∧ N ≤ 1 ∧ (lo = none → N = 0) ∧ DiskAt wr w1.heap.size o (w1.heap.size + 1) (T none none lo) N ∧ RowF wr w1.heap.size o all (.slice a all.length c) ∧ Below w1.heap.size w1 wr) (fun _ _ iv _ => ls.length - (intOf iv).toNat)
  case atStart =>
    exact ⟨0, none, 0, 0, 0, [], none, o2, Nat.zero_le _, rfl, rfl, rfl, by simp, (fun x hx => by cases hx), .inl ⟨rfl, rfl, rfl, rfl⟩, by decide, fun _ => rfl, HD2.out, ⟨World.ownsRow_nil _ _ _ _, fun k e => by cases e⟩, HB2.out⟩
  case round =>
    obtain ⟨k, a, c, s, N, all, lo, o, hk, rfl, rfl, rfl, hal, har, hlog, hN, hN0, hd, hrow, hb⟩ := hrel
    have HLOG := Lib.hid hlog
    have HD := Lib.hid hd
    have HROW := Lib.hid hrow
    have HB := Lib.hid hb
    have HAR := Lib.hid har
    have HN0 := Lib.hid hN0
    have HWR := Lib.hid (HB1.out.trans (hb.mono HB1.out.size))
    by_cases hlt : k < ls.length
    · obtain ⟨x, A, C, rfl, hxl, hxc, hxr, hxn⟩ := HR0.out k hlt
      obtain ⟨zl, hzl⟩ : ∃ zl, zl = ls.getD k [] := ⟨_, rfl⟩
      rw [← hzl] at hxc hxr
      have hxcr : wr.cell? (x.add k) = some (.slice A zl.length C) := (HWR.out.cell (p := x.add k) (by rw [add_block]; exact hxl)).trans hxc
      have hk20 : k ≤ 19 := by omega
      clear hlog hd hrow hb har hN0 hzl
      by_cases hzz : zl.length ≤ 60
      · have d3 : decide (60 < (zl.length : Int)) = false := by simp; omega
        have HAP := Lib.hid (append_log (w1.heap.size + 1) w1.heap.size N o synced k all s lo A C zl wr HLOG.out HD.out hN HN0.out (hxr.below HWR.out) hxn hzz hal (by omega) HB.out.size)
        have HXR := Lib.hid hxr
        have HXN := Lib.hid hxn
        have HXL := Lib.hid hxl
        have HXC := Lib.hid hxc
        have HHI := Lib.hid (And.intro hi (And.intro hz0 (And.intro hz1 hz2)))
        clear hxr hxn hxl hxc hi hz0 hz1 hz2
        go_wp2_with fail
        refine HAP.out.mono ?_
        rintro e w3 ⟨rfl, o3, F, hmid, hd3, hst3⟩
        have hb3 : Below w1.heap.size w1 w3 := HB.out.trans (hst3.below HD.out.owns HB.out.size)
        have hww3 := HB1.out.trans (hb3.mono HB1.out.size)
        have hrow3 := HROW.out.step hst3
        have hxc3 : w3.cell? (x.add k) = some (.slice A zl.length C) := (hww3.cell (p := x.add k) (by rw [add_block]; exact HXL.out)).trans HXC.out
        have hpb := (HXR.out.below hww3).bytes
        have hpn : A = none → zl.length = 0 ∧ C = 0 := fun e => ⟨HXR.out.none_len e, HXN.out e⟩
        have HROW3 := Lib.hid hrow3
        have hr3 := hrow3.1
        have HB3 := Lib.hid hb3
        have HD3 := Lib.hid hd3
        have HMID := Lib.hid hmid
        have HPR := Lib.hid HXR.out.hr
        obtain ⟨hi, hz0, hz1, hz2⟩ := HHI.out
        clear hb3 hww3 hrow3 hmid hd3 hst3 hxcr
        go_wp2_with (at_builtin; go_loud (refine wpList_append_lies _ rfl _ _ 22 rfl w1.heap.size 5 i0 (.int .u8 0) 1 1 Try.underlying22 hi hz0 hz1 hz2 rfl (by decide) _ _ _ rfl hr3 A zl.length C (zl.map (Value.int .u8)) rfl (by simp) hpn hpb (ints_oneCell .u8 _) (by unfold maxLen; omega) (by omega) HB3.out.size ?_))
        intro v' w4 hown hg4 hlies
        obtain ⟨a', c', rfl, _⟩ := slice_shape hown
        have hown' : Row w4 w1.heap.size (all ++ zl) (.slice a' (all.length + zl.length) c') := by unfold Row; simpa using hown
        have HROW4 := Lib.hid (HROW3.out.grown (fun k e => (HD3.out.owns k e).2) hown' hlies)
        have HD4 := Lib.hid (HD3.out.grown hg4 (fun k e => HROW3.out.2 k e))
        have HB4 := Lib.hid (HB3.out.grown hg4 HB3.out.size (fun k e => (hr3.own k e).1))
        have HHI := Lib.hid (And.intro hi (And.intro hz0 (And.intro hz1 hz2)))
        clear hown hg4 hlies hown' hr3 hpb hpn hxc3 d3 hi hz0 hz1 hz2
        by_cases hks : (k : Int) ≤ synced
        · have HSYN := Lib.hid (sync_log (w1.heap.size + 1) w1.heap.size o3 synced k (all ++ zl) s F w4 HMID.out hks HD4.out)
          go_wp2_with fail
          refine HSYN.out.mono ?_
          rintro e w5 ⟨rfl, o5, lo5, hl5, hn5, hd5, hst5⟩
          have HL5 := Lib.hid hl5
          have HNN := Lib.hid hn5
          have HD5 := Lib.hid hd5
          have HROW5 := Lib.hid (HROW4.out.step hst5)
          have HB5 := Lib.hid (HB4.out.trans (hst5.below HD4.out.owns HB4.out.size))
          clear hl5 hn5 hd5 hst5
          go_wp2
          go_roundw
          case rel =>
            refine ⟨k + 1, a', c', (all ++ zl).length, 1, all ++ zl, lo5, o5, hlt, by simp, by simp, by go_num, by simp; omega, fun x hx => ?_, HL5.out, Nat.le_refl _, fun e => absurd e HNN.out, HD5.out, by rw [List.length_append]; exact HROW5.out, HB5.out⟩
            rcases List.mem_append.1 hx with hx | hx
            · exact HAR.out x hx
            · exact HPR.out x hx
          case measure => simp [intOf]; omega
        · have HL5 := Lib.hid (HMID.out.stay hks)
          go_wp2
          go_roundw
          case rel =>
            refine ⟨k + 1, a', c', s, 1, all ++ zl, some F, o3, hlt, by simp, rfl, by go_num, by simp; omega, fun x hx => ?_, HL5.out, Nat.le_refl _, (fun e => by cases e), HD4.out, by rw [List.length_append]; exact HROW4.out, HB4.out⟩
            rcases List.mem_append.1 hx with hx | hx
            · exact HAR.out x hx
            · exact HPR.out x hx
          case measure => simp [intOf]; omega
      · have d3 : decide (60 < (zl.length : Int)) = true := by simp; omega
        go_wp2
        go_ret
        exact ⟨rfl, HWR.out⟩
    · obtain rfl : k = ls.length := by omega
      have HLO : Few lo := HLOG.out.later
      clear hlog hd hrow hb har hN0 HSY hsy
      have hcv := Lib.run_convert_bytes_const (P := Try.prog) wr 22 5 #[.int .u8 102, .int .u8 105, .int .u8 114, .int .u8 115, .int .u8 116] 5 5 Try.underlying22 Try.underlying5
      simp only [List.size_toArray, List.length_cons, List.length_nil, Nat.reduceAdd] at hcv
      have HLB := Lib.hid (show Below wr.heap.size wr (wr.alloc (.cells #[.int .u8 102, .int .u8 105, .int .u8 114, .int .u8 115, .int .u8 116] 5 (5, 6))) from (Below.refl _ _).alloc (Nat.le_refl _) _)
      have HLR := Lib.hid (lit_reads wr first (5, 6) (by decide) (by decide))
      go_wp2_with fail
      refine (step1 (w1.heap.size + 1) w1.heap.size o lo _ HLO (Nat.le_trans HB.out.size HLB.out.size) (some ⟨wr.heap.size, 0, none⟩) 5 N (HD.out.below HLB.out) hN HLR.out (fun h => by cases h)).mono ?_
      rintro e w3 ⟨rfl, o3, hd3, hst3⟩
      have HST3 := Lib.hid ((Step.of_below o HLB.out).trans hst3)
      have HD3 := Lib.hid hd3
      have HB3 := Lib.hid (HB.out.trans (HST3.out.below HD.out.owns HB.out.size))
      have HR3 := Lib.hid (HROW.out.step HST3.out)
      clear hd3 hst3 HST3 HD HB HROW HLB HLR hcv HWR
      go_wp2_with fail
      refine (step2 (w1.heap.size + 1) w1.heap.size o3 lo w3 HD3.out).mono ?_
      rintro e w4 ⟨rfl, o4, hd4, hst4⟩
      have HD4 := Lib.hid hd4
      have HB4 := Lib.hid (HB3.out.trans (hst4.below HD3.out.owns HB3.out.size))
      have HR4 := Lib.hid (HR3.out.step hst4)
      clear hd4 hst4 HD3 HB3 HR3
      go_wp2_with fail
      refine (step3 (w1.heap.size + 1) w1.heap.size o4 lo w4 HLO HB4.out.size a2 cap2 zs HD4.out HZ.out (HP.out.below (HB1.out.trans (HB4.out.mono HB1.out.size))) HN2.out).mono ?_
      rintro e w5 ⟨rfl, o5, hd5, hst5⟩
      have HD5 := Lib.hid hd5
      have HB5 := Lib.hid (HB4.out.trans (hst5.below HD4.out.owns HB4.out.size))
      have HR5 := Lib.hid (HR4.out.step hst5)
      clear hd5 hst5 HD4 HB4 HR4
      go_wp2_with fail
      refine (step4 (w1.heap.size + 1) w1.heap.size o5 lo w5 HLO HB5.out.size a2 cap2 zs HD5.out HZ.out (HP.out.below (HB1.out.trans (HB5.out.mono HB1.out.size))) HN2.out).mono ?_
      rintro e w6 ⟨rfl, o6, hd6, hst6⟩
      have HD6 := Lib.hid hd6
      have HB6 := Lib.hid (HB5.out.trans (hst6.below HD5.out.owns HB5.out.size))
      have HR6 := Lib.hid (HR5.out.step hst6)
      clear hd6 hst6 HD5 HB5 HR5
      go_wp2_with fail
      refine (step5 (w1.heap.size + 1) w1.heap.size o6 lo w6 zs HD6.out).mono ?_
      rintro e w7 ⟨rfl, o7, hd7, hst7⟩
      have HD7 := Lib.hid hd7
      have HB7 := Lib.hid (HB6.out.trans (hst7.below HD6.out.owns HB6.out.size))
      have HR7 := Lib.hid (HR6.out.step hst7)
      clear hd7 hst7 HD6 HB6 HR6
      go_wp2_with fail
      refine (step6 (w1.heap.size + 1) w1.heap.size o7 lo w7 HB7.out.size zs HD7.out).mono ?_
      rintro e w8 ⟨rfl, o8, hd8, hst8⟩
      have HD8 := Lib.hid hd8
      have HB8 := Lib.hid (HB7.out.trans (hst8.below HD7.out.owns HB7.out.size))
      have HR8 := Lib.hid (HR7.out.step hst8)
      clear hd8 hst8 HD7 HB7 HR7
      go_wp2_with fail
      refine (step7 (w1.heap.size + 1) w1.heap.size o8 lo w8 HLO zs HD8.out).mono ?_
      rintro e w9 ⟨la, lc, rfl, hb9⟩
      obtain ⟨lb, hlb⟩ : ∃ lb, lb = asked (fun f => f.loose) lo := ⟨_, rfl⟩
      rw [← hlb]
      obtain ⟨nl, hnl⟩ : ∃ nl, nl = 2 + (if lb then 1 else 0) := ⟨_, rfl⟩
      rw [← hnl]
      have HLBL := Lib.hid hlb
      have HNL := Lib.hid hnl
      have HD9 := Lib.hid (HD8.out.below hb9)
      have HB9 := Lib.hid (HB8.out.trans (hb9.mono HB8.out.size))
      have HR9 := Lib.hid (HR8.out.below hb9)
      clear hb9 hlb hnl HD8 HB8 HR8
      obtain ⟨s1, s2⟩ := HST.out
      obtain ⟨t1, t2⟩ := HOT.out
      go_wp2_with fail
      obtain ⟨xx, hxx⟩ : ∃ xx, xx = wrap64 (stay - wrap64 (stay.tdiv 2 * 2)) := ⟨_, rfl⟩
      have hxr : -9223372036854775808 ≤ xx ∧ xx ≤ 9223372036854775807 := by rw [hxx]; exact bounds_i64 (wrap64_wf _)
      rw [← hxx]
      clear hxx
      have HLB := Lib.hid (show Below w9.heap.size w9 (w9.alloc (.cells #[.int .i64 other, .int .i64 xx, .int .i64 stay] 3)) from (Below.refl _ _).alloc (Nat.le_refl _) _)
      refine (step8 (w1.heap.size + 1) w1.heap.size o8 lo _ HLO zs (some ⟨w9.heap.size, 0, none⟩) 3 other xx stay (HD9.out.below HLB.out) (stay_lit w9 o8 [other, xx, stay] (by simp; omega) (fun k e => (HD9.out.owns k e).2)) HLOG.out).mono ?_
      rintro e w10 ⟨rfl, o10, is, bl, hleft, hd10, hst10⟩
      obtain ⟨ba, hba⟩ : ∃ ba, ba = if other.toNat = 0 then first else zs := ⟨_, rfl⟩
      obtain ⟨ig, hig⟩ : ∃ ig, ig = decide (xx.toNat = 0) := ⟨_, rfl⟩
      obtain ⟨bg, hbg⟩ : ∃ bg, bg = if xx.toNat = 0 then zs else [] := ⟨_, rfl⟩
      rw [← hba, ← hig, ← hbg] at hd10
      have HS10 := Lib.hid (Sure3.mk hd10 (fun e => by cases e) (fun e => by rw [hig] at e; rw [hbg, if_neg (by simpa using e)]) hleft.nil)
      rw [← HLBL.out] at hleft
      have HST10 := Lib.hid ((Step.of_below o8 HLB.out).trans hst10)
      have HB10 := Lib.hid (HB9.out.trans (HST10.out.below HD9.out.owns HB9.out.size))
      have HR10 := Lib.hid (HR9.out.step HST10.out)
      have HLEFT := Lib.hid hleft
      have HBA := Lib.hid hba
      have HIG := Lib.hid hig
      have HBG := Lib.hid hbg
      clear hd10 hst10 hleft hba hig hbg HST10 HD9 HB9 HR9 HLB hxr s1 s2
      go_wp2_with fail
      refine HS10.out.readL.mono ?_
      rintro e w11 ⟨ra, rc, rfl, hrow, hb⟩
      have HS11 := Lib.hid (HS10.out.below hb)
      have HB11 := Lib.hid (HB10.out.trans (hb.mono HB10.out.size))
      have HR11 := Lib.hid (HR10.out.below hb)
      have HRL11 := Lib.hid ((RowF.of hrow (fun k e => (HS10.out.disk.owns k e).2)).less HB10.out.size)
      clear hrow hb HS10 HB10 HR10
      go_wp2_with fail
      refine HS11.out.readA.mono ?_
      rintro e w12 ⟨xa, xc, rfl, hrow, hb⟩
      have HS12 := Lib.hid (HS11.out.below hb)
      have HB12 := Lib.hid (HB11.out.trans (hb.mono HB11.out.size))
      have HR12 := Lib.hid (HR11.out.below hb)
      have HRL12 := Lib.hid (HRL11.out.below hb)
      have HRA12 := Lib.hid hrow
      clear hrow hb HS11 HB11 HR11 HRL11
      go_wp2_with fail
      refine HS12.out.readG.mono ?_
      rintro e w13 ⟨ya, yc, rfl, hrow, hb⟩
      have HS13 := Lib.hid (HS12.out.below hb)
      have HB13 := Lib.hid (HB12.out.trans (hb.mono HB12.out.size))
      have HR13 := Lib.hid (HR12.out.below hb)
      have HRL13 := Lib.hid (HRL12.out.below hb)
      have HRA13 := Lib.hid (HRA12.out.below hb)
      have HRG13 := Lib.hid hrow
      clear hrow hb HS12 HB12 HR12 HRL12 HRA12
      have hnl2 : decide ((nl : Int) < 2) = false := by have := HNL.out; simp; omega
      go_upto_region 31 with fail
      go_cut [18, 20, 21, 158] from 99 to 158 (fun _ _ _ v wx => v = .bool false ∧ Below w13.heap.size w13 wx)
      case first =>
        go_wp2_with fail
        refine HS13.out.loose.mono ?_
        rintro e w14 ⟨ka, kc, rfl, hb⟩
        have HB := Lib.hid hb
        have HRA14 := Lib.hid (HRA13.out.below hb)
        have HRG14 := Lib.hid (HRG13.out.below hb)
        have tA := HRA14.out.text (Below.refl _ _)
        have tG := HRG14.out.text (Below.refl _ _)
        have tW := (HP.out.below ((HB1.out.trans (HB13.out.mono HB1.out.size)).trans (hb.mono (HB1.out.trans (HB13.out.mono HB1.out.size)).size))).text zs.length cap2 rfl
        clear hb HRA14 HRG14
        have hfs : strOfNums first = ⟨#[102, 105, 114, 115, 116]⟩ := by rfl
        have hig := HIG.out
        have hbg := HBG.out
        have hba := HBA.out
        generalize hsW : strOfNums zs = sW at tW
        by_cases hx : xx.toNat = 0
        · rw [if_pos hx] at hbg
          have hig' : ig = true := by rw [hig]; simpa using hx
          rw [hbg, hsW] at tG
          rw [hig', hbg]
          clear hig hbg hig' hx
          by_cases ho : other.toNat = 0
          · rw [if_pos ho] at hba
            have hod : decide (0 < other) = false := by simp; omega
            rw [hba, hfs] at tA
            rw [hba]
            clear hba ho hfs hsW
            by_cases cw : [102, 105, 114, 115, 116] = sW.toList
            · have cw2 := cw.symm
              clear cw
              go_wp2_with fail
              go_meet
              exact ⟨rfl, HB.out⟩
            · go_wp2_with fail
              go_meet
              exact ⟨rfl, HB.out⟩
          · rw [if_neg ho] at hba
            have hod : decide (0 < other) = true := by simp; omega
            rw [hba, hsW] at tA
            rw [hba]
            clear hba ho hfs hsW
            go_wp2_with fail
            all_goals
              go_meet
              exact ⟨rfl, HB.out⟩
        · have hig' : ig = false := by rw [hig]; simpa using hx
          rw [hig']
          clear hig hbg hig' hx tG
          by_cases ho : other.toNat = 0
          · rw [if_pos ho] at hba
            have hod : decide (0 < other) = false := by simp; omega
            rw [hba, hfs] at tA
            rw [hba]
            clear hba ho hfs hsW
            by_cases cw : [102, 105, 114, 115, 116] = sW.toList
            · have cw2 := cw.symm
              clear cw
              go_wp2_with fail
              go_meet
              exact ⟨rfl, HB.out⟩
            · go_wp2_with fail
              go_meet
              exact ⟨rfl, HB.out⟩
          · rw [if_neg ho] at hba
            have hod : decide (0 < other) = true := by simp; omega
            rw [hba, hsW] at tA
            rw [hba]
            clear hba ho hfs hsW
            go_wp2_with fail
            all_goals
              go_meet
              exact ⟨rfl, HB.out⟩
      case rest =>
        obtain ⟨rfl, hb⟩ := hcut
        have HS15 := Lib.hid (HS13.out.below hb)
        have HB15 := Lib.hid (HB13.out.trans (hb.mono HB13.out.size))
        have HR15 := Lib.hid (HR13.out.below hb)
        have HRL15 := Lib.hid (HRL13.out.below hb)
        clear hb HS13 HB13 HR13 HRL13 HRA13 HRG13 hnl2
        have tB := fun n => HRL15.out.1.text (w' := wc.drewN n) ⟨rfl, rfl, rfl, Nat.le_refl _, fun _ _ => rfl⟩
        have tC := fun n => (HR15.out.1.cut HLEFT.out.le).text (w' := wc.drewN n) ⟨rfl, rfl, rfl, Nat.le_refl _, fun _ _ => rfl⟩
        rw [← HLEFT.out.take] at tC
        have hcap : (bl.length : Int) ≤ (c : Int) := by
          have h1 : all.length ≤ c := HR15.out.1.cap
          have h2 := HLEFT.out.le
          omega
        have dle : decide (all.length < bl.length) = false := by have := HLEFT.out.le; simp; omega
        go_upto_region 33 with fail
        go_cut [17, 192] from 159 to 192 (fun v17 v wx => v17 = .bool is ∧ v = .bool false ∧ Below wc.heap.size wc wx)
        case first =>
          by_cases g1 : 0 < ls.length
          · have dg1 : decide (0 < ls.length) = true := by simpa using g1
            by_cases g2 : 0 ≤ synced
            · have dg2 : decide (0 ≤ synced) = true := by simpa using g2
              obtain ⟨hi, hs⟩ := HLEFT.out.there g1 g2
              have dls : decide (bl.length < s) = false := by simp; omega
              clear hs g1 g2
              go_quiet (fail)
              go_wp2
              go_meet
              exact ⟨by rw [hi], rfl, ⟨rfl, rfl, rfl, Nat.le_refl _, fun _ _ => rfl⟩⟩
            · have dg2 : decide (0 ≤ synced) = false := by simpa using g2
              clear g1 g2
              go_quiet (fail)
              go_wp2
              go_meet
              exact ⟨rfl, rfl, ⟨rfl, rfl, rfl, Nat.le_refl _, fun _ _ => rfl⟩⟩
          · have dg1 : decide (0 < ls.length) = false := by simpa using g1
            clear g1
            go_quiet (fail)
            go_wp2
            go_meet
            exact ⟨rfl, rfl, ⟨rfl, rfl, rfl, Nat.le_refl _, fun _ _ => rfl⟩⟩
        case rest =>
          obtain ⟨rfl, rfl, hb⟩ := hcut
          clear tB tC hcap dle
          generalize hwx : wc = wp at *
          clear hwx
          have HS16 := Lib.hid (HS15.out.below hb)
          have HB16 := Lib.hid (HB15.out.trans (hb.mono HB15.out.size))
          have HRL16 := Lib.hid (HRL15.out.below hb)
          clear hb HS15 HB15 HRL15 HR15
          go_upto_region 35 with fail
          go_cut [15, 217] from 87 to 217 (fun _ v wx => v = .bool false ∧ wx = wp)
          case first =>
            have hsl := HLOG.out.sure
            have hlb := HNL.out
            by_cases glb : lb = true
            · rw [glb] at hlb
              have hn3 : nl = 3 := hlb
              rw [hn3]
              clear hlb hn3
              by_cases g2 : 0 ≤ synced
              · have dg2 : decide (0 ≤ synced) = true := by simpa using g2
                by_cases g1 : 0 < ls.length
                · have dg1 : decide (0 < ls.length) = true := by simpa using g1
                  have hj := HLEFT.out.just glb g2 g1
                  have hjust : (s : Int) + min (max 0 stay) ((all.length : Int) - (s : Int)) = (bl.length : Int) := by omega
                  have hjw : wrap64 ((s : Int) + min (max 0 stay) ((all.length : Int) - (s : Int))) = (bl.length : Int) := by
                    rw [hjust]
                    have h1 := HLEFT.out.le
                    unfold wrap64
                    omega
                  clear hj g1 g2 glb
                  go_wp2_with fail
                  go_meet
                  exact ⟨rfl, rfl⟩
                · have dg1 : decide (0 < ls.length) = false := by simpa using g1
                  clear g1 g2 glb
                  go_wp2_with fail
                  go_meet
                  exact ⟨rfl, rfl⟩
              · have dg2 : decide (0 ≤ synced) = false := by simpa using g2
                clear g2 glb
                go_wp2_with fail
                go_meet
                exact ⟨rfl, rfl⟩
            · have glb' : lb = false := by simpa using glb
              rw [glb'] at hlb
              have hn3 : nl = 2 := hlb
              rw [hn3]
              clear hlb hn3 glb glb'
              go_wp2_with fail
              go_meet
              exact ⟨rfl, rfl⟩
          case rest =>
            obtain ⟨rfl, hwx⟩ := hcut
            subst hwx
            have HLB := Lib.hid (show Below wc.heap.size wc (wc.alloc (.cells #[.int .i64 5, .int .i64 5, .int .i64 5] 3)) from (Below.refl _ _).alloc (Nat.le_refl _) _)
            go_wp2_with fail
            refine ((HS16.out.below HLB.out).crash (some ⟨wc.heap.size, 0, none⟩) 3 5 5 5 (stay_lit wc o10 [5, 5, 5] (by simp) (fun k e => (HS16.out.disk.owns k e).2))).mono ?_
            rintro e w20 ⟨rfl, o20, hs20, hst20⟩
            have hstep := (Step.of_below o10 HLB.out).trans hst20
            have HS20 := Lib.hid hs20
            have HB20 := Lib.hid (HB16.out.trans (hstep.below HS16.out.disk.owns HB16.out.size))
            have HRL20 := Lib.hid (HRL16.out.step hstep)
            clear hs20 hst20 hstep HS16 HB16 HRL16 HLB
            go_wp2_with fail
            refine HS20.out.readL.mono ?_
            rintro e w21 ⟨ca, cc, rfl, hrow, hb⟩
            have HS21 := Lib.hid (HS20.out.below hb)
            have HB21 := Lib.hid (HB20.out.trans (hb.mono HB20.out.size))
            have HRL21 := Lib.hid (HRL20.out.below hb)
            have HRC21 := Lib.hid hrow
            clear hrow hb HS20 HB20 HRL20
            go_wp2_with fail
            refine HS21.out.sureL.mono ?_
            rintro e w22 ⟨da, dc, rfl, hrow, hb⟩
            have HB22 := Lib.hid (HB1.out.trans ((HB21.out.trans (hb.mono HB21.out.size)).mono HB1.out.size))
            have tB := (HRL21.out.below hb).1.text (Below.refl _ _)
            have tC := (HRC21.out.below hb).text (Below.refl _ _)
            have tD := hrow.text (Below.refl _ _)
            clear hrow hb HS21 HB21 HRL21 HRC21
            go_wp2
            go_ret
            exact ⟨rfl, HB22.out⟩

end Go.Proofs.Ytchmipeehhbniaa
