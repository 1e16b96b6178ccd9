/- VoteKept: its walk. -/
import Derived.Test.YtaljfpkgancidaaKnown11
import Derived.Test.YtaljfpkgancidaaVtA
import Derived.IntWalk
import Derived.Lib.SlBytesConst
namespace Go.Proofs.Ytaljfpkgancidaa
open Go.RowKit Go.Maps Go.Sort Dsk

def otherN : Name := [111, 116, 104, 101, 114]

/-- promises that came in -/
def PromsF (w : World) (a : Option Addr) (l : List (Nat × Nat)) : Prop := ∀ i (h : i < l.length), ∃ b q, a = some ⟨b, q, none⟩ ∧ b < w.heap.size ∧ w.cell? ⟨b, q + i * 2, none⟩ = some (.int .u64 (l[i].1 : Int)) ∧ w.cell? ⟨b, q + i * 2 + 1, none⟩ = some (.int .u64 (l[i].2 : Int)) ∧ l[i].1 < 18446744073709551616 ∧ l[i].2 < 18446744073709551616

/-- the disk's files when these promises were put -/
def voteM : Option (Nat × Nat) → Files
  | none => fun _ => none
  | some (t, v) => upd (fun _ => none) voteN (some (sureF (Vt.voteOf t v)))
theorem voteM_put (x : Option (Nat × Nat)) (t v : Nat) : upd (voteM x) voteN (some (sureF (Vt.voteOf t v))) = voteM (some (t, v)) := by
  cases x with
  | none => rfl
  | some p => exact upd_upd _ _ _ _
theorem take_last (l : List (Nat × Nat)) (i : Nat) (h : i < l.length) : (l.take (i + 1)).getLast? = some l[i] := by
  rw [List.take_succ_eq_append_getElem h]; exact List.getLast?_concat

structure AtPut (w0 w : World) (B g : Nat) (l : List (Nat × Nat)) (i : Nat) : Prop where
  all : ∃ o N, Liv w B o g (voteM (l.take i).getLast?) N ∧ N ≤ i
  bel : Below w0.heap.size w0 w

/-- what stands at the head of the second loop -/
structure Spoilt1 (M : Files) (n : Name) : Prop where
  there : (M.at n).now.there = true
  bad : Vt.Bad (M.at n).now.bs
  len : (M.at n).now.bs.length ≤ 300000
structure AtCut (w0 w : World) (B g x : Nat) (V S : List Int) (i : Nat) : Prop where
  all : ∃ o M N, Liv w B o g M N ∧ N ≤ 23 + i ∧ o x = none ∧ (i = 0 → M.at voteN = sureF V) ∧ (i ≤ 1 → M.at shotN = sureF S) ∧ (1 ≤ i → Spoilt1 M voteN) ∧ (2 ≤ i → Spoilt1 M shotN)
  bel : Below w0.heap.size w0 w
  names : w.heap[x]? = some (.cells #[.string ⟨voteN.toArray⟩, .string ⟨shotN.toArray⟩] 52 (0, 0))
theorem AtCut.file {w : World} {x t v ti tt i : Nat} {timg : List Int} {M : Files} (hi : i < 2) (h0 : i = 0 → M.at voteN = sureF (Vt.voteOf t v)) (h1 : i ≤ 1 → M.at shotN = sureF (Vt.shotOf ti tt timg)) (ht : t < 18446744073709551616) (hv : v < 18446744073709551616) (hti : ti < 18446744073709551616) (htt : tt < 18446744073709551616) (hl : timg.length ≤ 9000) (hr : ∀ x ∈ timg, 0 ≤ x ∧ x ≤ 255)
    (hn : w.heap[x]? = some (.cells #[.string ⟨voteN.toArray⟩, .string ⟨shotN.toArray⟩] 52 (0, 0))) :
    ∃ nm r ls, nm = (if i = 0 then voteN else shotN) ∧ w.cell? ⟨x, i, none⟩ = some (.string ⟨nm.toArray⟩) ∧ M.at nm = sureF (Frame.flat (r :: ls)) ∧ r.length ≤ 30 ∧ (∀ z ∈ r :: ls, z.length ≤ 4096) ∧ (∀ z ∈ r :: ls, ∀ y ∈ z, 0 ≤ y ∧ y ≤ 255) ∧ (Frame.flat (r :: ls)).length ≤ 264000 := by
  match i, hi with
  | 0, _ =>
    refine ⟨voteN, Vt.recOf [t, v], [], rfl, by rw [cell_of_row _ _ 0 _ _ _ hn]; rfl, by rw [h0 rfl, Vt.flat_one]; rfl, by have := Vt.rec2_len t v; omega, ?_, ?_, by rw [Vt.flat_one]; have := vote_len t v; show (Vt.voteOf t v).length ≤ _; omega⟩
    · intro z hz; simp at hz; subst hz; have := Vt.rec2_len t v; omega
    · intro z hz; simp at hz; subst hz; exact Vt.recOf_range _ (Vt.small2 ht hv)
  | 1, _ =>
    exact ⟨shotN, Vt.recOf [ti, tt, timg.length], Vt.parts timg, rfl, by rw [cell_of_row _ _ 1 _ _ _ hn]; rfl, h1 (Nat.le_refl _), Vt.rec3_len ti tt timg.length, Vt.shot_small ⟨ti, tt, timg⟩, Vt.shot_range (s := ⟨ti, tt, timg⟩) ⟨hti, htt, by show timg.length ≤ _; omega, hr⟩, shot_len (i := ti) (t := tt) (by omega)⟩

theorem AtCut.next {w1 wr w4 w5 : World} {g x N i : Nat} {V S : List Int} {o o5 : Tags} {M : Files} {nm : Name} {zs F : List Int} (hi : i < 2) (hnm : nm = if i = 0 then voteN else shotN) (hl : Liv wr w1.heap.size o g M N) (hN : N ≤ 23 + i) (hox : o x = none) (hsh : i ≤ 1 → M.at shotN = sureF S) (hsp : 1 ≤ i → Spoilt1 M voteN) (hfile : M.at nm = sureF F) (hbel : Below w1.heap.size w1 wr)
    (hnames : wr.heap[x]? = some (.cells #[.string ⟨voteN.toArray⟩, .string ⟨shotN.toArray⟩] 52 (0, 0))) (hb4 : Below wr.heap.size wr w4) (hd5 : DiskAt w5 w1.heap.size o5 g (upd M nm (some ((M.at nm).chg ⟨true, zs, zs.length⟩))) (cntN M nm N)) (hs5 : Step o w4 o5 w5) (hbad : Vt.Bad zs) (hlen : zs.length ≤ 300000) :
    AtCut w1 w5 w1.heap.size g x V S (i + 1) := by
  have hl4 := hl.below hb4
  have hnl : nm.length ≤ 64 := by rw [hnm]; split <;> decide
  have hx : x < w4.heap.size := Nat.lt_of_lt_of_le (lt_of_block hnames) hb4.size
  have hcn := cntN_le M nm N
  have hsp1 : Spoilt1 (upd M nm (some ((M.at nm).chg ⟨true, zs, zs.length⟩))) nm := by
    refine ⟨?_, ?_, ?_⟩
    · rw [upd_at, chg_now]
    · rw [upd_at, chg_now]; exact hbad
    · rw [upd_at, chg_now]; exact hlen
  have hso : ∀ n, n ≠ nm → (upd M nm (some ((M.at nm).chg ⟨true, zs, zs.length⟩))).at n = M.at n := fun n h => upd_at_other M _ h
  refine ⟨⟨o5, _, cntN M nm N, hl4.step hs5 hd5 (tame_upd hl4.tame hnl fun f e => by cases e; rw [hfile]; simp [Fil.chg, sureF]) (by omega), by omega, hs5.free x hx hox (by simp [Value.ownBlock]), fun h => by omega, fun h => ?_, fun _ => ?_, fun h => ?_⟩, (hbel.trans (hb4.mono hbel.size)).trans (hs5.below (fun k e => hl4.disk.owns k e) hl4.hB), (hs5.block x hx hox).trans ((hb4.block x (lt_of_block hnames)).trans hnames)⟩
  · obtain rfl : i = 0 := by omega
    rw [if_pos rfl] at hnm
    subst hnm
    rw [hso shotN (by decide)]
    exact hsh (by omega)
  · match i, hi with
    | 0, _ =>
      rw [if_pos rfl] at hnm
      subst hnm
      exact hsp1
    | 1, _ =>
      rw [if_neg (by decide)] at hnm
      subst hnm
      have h := hsp (by omega)
      have e := hso voteN (by decide)
      exact ⟨by rw [e]; exact h.there, by rw [e]; exact h.bad, by rw [e]; exact h.len⟩
  · obtain rfl : i = 1 := by omega
    rw [if_neg (by decide)] at hnm
    subst hnm
    exact hsp1

set_option maxRecDepth 100000 in
set_option maxHeartbeats 8000000 in
theorem votekept_any (l : List (Nat × Nat)) (a : Option Addr) (cp : Nat) (si st : Nat) (sa : Option Addr) (sc : Nat) (simg : List Int) (ti tt : Nat) (ta : Option Addr) (tc : Nat) (timg : List Int) (na : Option Addr) (nc : Nat) (ss : List Int) (at_ : Int) (by_ : Nat) (w : World)
    (hl : PromsF w a l) (hsi : si < 18446744073709551616) (hst : st < 18446744073709551616) (hsr : Reads w sa simg) (hsc : simg.length ≤ sc) (hti : ti < 18446744073709551616) (htt : tt < 18446744073709551616) (htr : Reads w ta timg) (htc : timg.length ≤ tc)
    (hss : ∀ k (h : k < ss.length), ∃ gs of, na = some ⟨gs, of, none⟩ ∧ gs < w.heap.size ∧ w.cell? ⟨gs, of + k, none⟩ = some (.int .i64 ss[k])) (hwf : ∀ x ∈ ss, -9223372036854775808 ≤ x ∧ x ≤ 9223372036854775807)
    (hat : -9223372036854775808 ≤ at_ ∧ at_ ≤ 9223372036854775807) (hby : by_ < 256) :
    Calls Try.prog 4 #[.slice a l.length cp, .agg #[.int .u64 (si : Int), .int .u64 (st : Int), .slice sa simg.length sc], .agg #[.int .u64 (ti : Int), .int .u64 (tt : Int), .slice ta timg.length tc], .slice na ss.length nc, .int .i64 at_, .int .u8 (by_ : Int)] w fun r w' => r = .returned (.bool true) ∧ Below w.heap.size w w' := by
  obtain ⟨wA, hwA⟩ : ∃ wA, wA = (w.alloc (.cells #[.int .u64 (si : Int), .int .u64 (st : Int), .slice sa simg.length sc] 27)).alloc (.cells #[.int .u64 (ti : Int), .int .u64 (tt : Int), .slice ta timg.length tc] 27) := ⟨_, rfl⟩
  have hbA : Below w.heap.size w wA := by rw [hwA]; exact ((Below.refl _ _).alloc (Nat.le_refl _) _).alloc (by simp) _
  have hsb : wA.heap[w.heap.size]? = some (.cells #[.int .u64 (si : Int), .int .u64 (st : Int), .slice sa simg.length sc] 27 (0, 0)) := by rw [hwA]; exact (Below.heap_alloc _ _ _ (by simp)).trans (heap_alloc_new w _)
  have htb : wA.heap[w.heap.size + 1]? = some (.cells #[.int .u64 (ti : Int), .int .u64 (tt : Int), .slice ta timg.length tc] 27 (0, 0)) := by
    rw [hwA]
    have := heap_alloc_new (w.alloc (.cells #[.int .u64 (si : Int), .int .u64 (st : Int), .slice sa simg.length sc] 27)) (.cells #[.int .u64 (ti : Int), .int .u64 (tt : Int), .slice ta timg.length tc] 27)
    rwa [World.size_alloc] at this
  have HKN := Lib.hid (known11_any wA)
  rw [hwA] at HKN
  have HWA := Lib.hid hwA
  have HBA := Lib.hid hbA
  have HSB := Lib.hid hsb
  have HTB := Lib.hid htb
  have HL := Lib.hid hl
  have HSR := Lib.hid (And.intro hsr hsc)
  have HTR := Lib.hid (And.intro htr htc)
  have HNM := Lib.hid (show (si < 18446744073709551616 ∧ st < 18446744073709551616) ∧ ti < 18446744073709551616 ∧ tt < 18446744073709551616 from ⟨⟨hsi, hst⟩, hti, htt⟩)
  have HSS := Lib.hid hss
  have HWF := Lib.hid hwf
  have HAT := Lib.hid hat
  have HBY := Lib.hid hby
  clear hl hsi hst hsr hsc hti htt htr htc hss hwf hat hby hwA hbA hsb htb
  go_enter Try.func4, Try.ntmps4
  go_wp2_with fail
  refine HKN.out.mono ?_
  rintro r w1 ⟨rfl, hb1⟩
  rw [← HWA.out] at hb1
  have HSB1 := Lib.hid ((hb1.block _ (lt_of_block HSB.out)).trans HSB.out)
  have HTB1 := Lib.hid ((hb1.block _ (lt_of_block HTB.out)).trans HTB.out)
  have HB1 := Lib.hid (HBA.out.trans (hb1.mono HBA.out.size))
  have hw1 : w.heap.size + 2 ≤ w1.heap.size := by have := lt_of_block HTB1.out; omega
  clear hb1 HKN HWA HBA HSB HTB
  obtain ⟨s0, s1, s2⟩ := three_at HSB1.out
  obtain ⟨t0, t1, t2⟩ := three_at HTB1.out
  by_cases c1 : l.length < 1
  · have d1 : decide ((l.length : Int) < 1) = true := by simp; omega
    go_wp2_with fail
    go_ret
    exact ⟨rfl, HB1.out⟩
  have d1 : decide ((l.length : Int) < 1) = false := by simp; omega
  by_cases c2 : 20 < l.length
  · have d2 : decide ((20 : Int) < (l.length : Int)) = true := by simp; omega
    go_wp2_with fail
    go_ret
    exact ⟨rfl, HB1.out⟩
  have d2 : decide ((20 : Int) < (l.length : Int)) = false := by simp; omega
  by_cases c3 : 9000 < simg.length
  · have d3 : decide ((9000 : Int) < (simg.length : Int)) = true := by simp; omega
    go_wp2_with fail
    go_ret
    exact ⟨rfl, HB1.out⟩
  have d3 : decide ((9000 : Int) < (simg.length : Int)) = false := by simp; omega
  by_cases c4 : 9000 < timg.length
  · have d4 : decide ((9000 : Int) < (timg.length : Int)) = true := by simp; omega
    go_wp2_with fail
    go_ret
    exact ⟨rfl, HB1.out⟩
  have d4 : decide ((9000 : Int) < (timg.length : Int)) = false := by simp; omega
  by_cases c5 : 10 < ss.length
  · have d5 : decide ((10 : Int) < (ss.length : Int)) = true := by simp; omega
    go_wp2_with fail
    go_ret
    exact ⟨rfl, HB1.out⟩
  have d5 : decide ((10 : Int) < (ss.length : Int)) = false := by simp; omega
  have HCC := Lib.hid (show 1 ≤ l.length ∧ l.length ≤ 20 ∧ simg.length ≤ 9000 ∧ timg.length ≤ 9000 ∧ ss.length ≤ 10 by omega)
  clear c1 c2 c3 c4 c5
  have HNEW := Lib.hid (new_any w1)
  go_wp2_with fail
  refine HNEW.out.mono ?_
  rintro e w2 ⟨rfl, hb2, o2, hd2, ho2⟩
  have HAT0 := Lib.hid (show AtPut w1 w2 w1.heap.size (w1.heap.size + 1) l 0 from ⟨⟨o2, 0, ⟨hd2, hb2.size, (fun l f hf => by cases hf), by decide⟩, Nat.le_refl _⟩, hb2⟩)
  clear hb2 hd2 ho2 HNEW d1 d2 d3 d4 d5
  clear s0 s1 s2 t0 t1 t2
  go_wp2_with fail
  go_loopw [14] (fun v wr => ∃ i : Nat, i ≤ l.length ∧ v = .int .i64 (i : Int) ∧ AtPut w1 wr w1.heap.size (w1.heap.size + 1) l i) (fun v _ => l.length - (intOf v).toNat)
  case atStart => exact ⟨0, Nat.zero_le _, rfl, HAT0.out⟩
  case round =>
    clear HAT0
    obtain ⟨i, hi, rfl, hat⟩ := hrel
    have HBL := Lib.hid hat.bel
    obtain ⟨o, N, hl, hN⟩ := hat.all
    clear hat
    have hl20 := HCC.out.2.1
    by_cases hin : i < l.length
    · obtain ⟨b, q, rfl, hblt, hc0, hc1, hp0, hp1⟩ := HL.out i hin
      have hbw := HB1.out.trans (HBL.out.mono HB1.out.size)
      have hcw0 := (hbw.cell (p := ⟨b, q + i * 2, none⟩) hblt).trans hc0
      have hcw1 := (hbw.cell (p := ⟨b, q + i * 2 + 1, none⟩) hblt).trans hc1
      obtain ⟨t, ht⟩ : ∃ t, t = l[i].1 := ⟨_, rfl⟩
      obtain ⟨v, hv⟩ : ∃ v, v = l[i].2 := ⟨_, rfl⟩
      rw [← ht] at hcw0 hp0
      rw [← hv] at hcw1 hp1
      have HPT := Lib.hid (voteput_any (w1.heap.size + 1) w1.heap.size N o _ t v wr hl hp0 hp1)
      rw [voteM_put] at HPT
      have hlast := take_last l i hin
      rw [show l[i] = (t, v) by rw [ht, hv]] at hlast
      rw [← hlast] at HPT
      have HLV := Lib.hid hl
      have HN := Lib.hid hN
      clear hl hN ht hv hc0 hc1 hbw hlast hp0 hp1
      go_wp2_with fail
      refine HPT.out.mono ?_
      rintro e w3 ⟨rfl, o3, hd3, hs3⟩
      have HAT3 := Lib.hid (show AtPut w1 w3 w1.heap.size (w1.heap.size + 1) l (i + 1) from ⟨⟨o3, cntN (voteM (l.take i).getLast?) voteN N, HLV.out.step hs3 hd3 (by
          cases (l.take (i + 1)).getLast? with
          | none => exact fun l f hf => by cases hf
          | some p => exact tame_upd (fun l f hf => by cases hf) (by decide) fun f e => by cases e; simp [sureF]) (by have := cntN_le (voteM (l.take i).getLast?) voteN N; have := HN.out; omega), by have := cntN_le (voteM (l.take i).getLast?) voteN N; have := HN.out; omega⟩, HBL.out.trans (hs3.below (fun k e => HLV.out.disk.owns k e) HLV.out.hB)⟩)
      clear hd3 hs3 HPT HLV
      go_wp2_with fail
      go_roundw
      case rel => exact ⟨i + 1, hin, by go_num, HAT3.out⟩
      case measure => simp [intOf]; omega
    · obtain rfl : i = l.length := by omega
      rw [List.take_length] at hl
      have hl1 := HCC.out.1
      obtain ⟨⟨t, v⟩, htv⟩ : ∃ p, l.getLast? = some p := by
        cases h : l.getLast? with
        | none =>
          rw [List.getLast?_eq_none_iff] at h
          rw [h] at hl1
          simp at hl1
        | some p => exact ⟨p, rfl⟩
      rw [htv] at hl
      have hlast : l[l.length - 1]'(by omega) = (t, v) := by
        rw [List.getLast?_eq_getElem?, List.getElem?_eq_getElem (by omega)] at htv
        exact Option.some.inj htv
      obtain ⟨b, q, rfl, hblt, hc0, hc1, hp0, hp1⟩ := HL.out (l.length - 1) (by omega)
      rw [hlast] at hc0 hc1 hp0 hp1
      dsimp only at hc0 hc1 hp0 hp1
      have HLC := Lib.hid (show b < w.heap.size ∧ w.cell? ⟨b, q + (l.length - 1) * 2, none⟩ = some (.int .u64 (t : Int)) ∧ w.cell? ⟨b, q + (l.length - 1) * 2 + 1, none⟩ = some (.int .u64 (v : Int)) from ⟨hblt, hc0, hc1⟩)
      have HTV := Lib.hid (And.intro hp0 hp1)
      have HK1 := Lib.hid (keep_any (w1.heap.size + 1) w1.heap.size N o _ si st sa sc simg wr hl HNM.out.1.1 HNM.out.1.2 (HSR.out.1.below (HB1.out.trans (HBL.out.mono HB1.out.size))) (by have := HCC.out; omega) HSR.out.2)
      obtain ⟨s0, s1, s2⟩ := three_at ((HBL.out.block _ (lt_of_block HSB1.out)).trans HSB1.out)
      have HLV := Lib.hid hl
      have HN := Lib.hid hN
      clear hl hN htv hlast hblt hc0 hc1 hp0 hp1 hin
      go_wp2_with fail
      refine HK1.out.mono ?_
      rintro e w3 ⟨rfl, o3, hd3, hs3⟩
      have hl3 := HLV.out.put hs3 hd3 (by decide) (by have := HN.out; omega)
      obtain ⟨N3, hN3⟩ : ∃ N3, N3 = cntN (voteM (some (t, v))) shotN N := ⟨_, rfl⟩
      have hN3b : N3 ≤ 21 := by have := cntN_le (voteM (some (t, v))) shotN N; have := HN.out; omega
      rw [← hN3] at hl3
      have hb3 := HBL.out.trans (hs3.below (fun k e => HLV.out.disk.owns k e) HLV.out.hB)
      have HK2 := Lib.hid (keep_any (w1.heap.size + 1) w1.heap.size N3 o3 _ ti tt ta tc timg w3 hl3 HNM.out.2.1 HNM.out.2.2 (HTR.out.1.below (HB1.out.trans (hb3.mono HB1.out.size))) (by have := HCC.out; omega) HTR.out.2)
      rw [upd_upd] at HK2
      obtain ⟨t0, t1, t2⟩ := three_at ((hb3.block _ (lt_of_block HTB1.out)).trans HTB1.out)
      have HL3 := Lib.hid hl3
      have HB3 := Lib.hid hb3
      clear hl3 hb3 hd3 hs3 hN3 HK1 HLV s0 s1 s2
      go_wp2_with fail
      refine HK2.out.mono ?_
      rintro e w4 ⟨rfl, o4, hd4, hs4⟩
      obtain ⟨N4, hN4⟩ : ∃ N4, N4 = cntN (upd (voteM (some (t, v))) shotN (some (sureF (Vt.shotOf si st simg)))) shotN N3 := ⟨_, rfl⟩
      have hN4b : N4 ≤ 22 := by have := cntN_le (upd (voteM (some (t, v))) shotN (some (sureF (Vt.shotOf si st simg)))) shotN N3; omega
      rw [← hN4] at hd4
      obtain ⟨M4, hM4⟩ : ∃ M4, M4 = upd (voteM (some (t, v))) shotN (some (sureF (Vt.shotOf ti tt timg))) := ⟨_, rfl⟩
      rw [← hM4] at hd4
      have htame4 : Tame M4 := by
        rw [hM4]
        exact tame_upd (tame_upd (fun l f hf => by cases hf) (by decide) fun f e => by cases e; simp [sureF]) (by decide) fun f e => by cases e; simp [sureF]
      have hMv : M4 voteN = some (sureF (Vt.voteOf t v)) := by rw [hM4, upd_other _ _ (by decide)]; show upd (fun _ => none) voteN (some (sureF (Vt.voteOf t v))) voteN = _; exact upd_same _ _ _
      have hMs : M4 shotN = some (sureF (Vt.shotOf ti tt timg)) := by rw [hM4, upd_same]
      have hMo : M4 otherN = none := by rw [hM4, upd_other _ _ (by decide)]; show upd (fun _ => none) voteN (some (sureF (Vt.voteOf t v))) otherN = _; exact upd_other _ _ (by decide)
      have hl4 := HL3.out.step hs4 hd4 htame4 (by omega)
      have hal : Below w4.heap.size w4 (w4.alloc (.cells (([120] : List Int).map (Value.int .u8)).toArray 5 (1, 2))) := (Below.refl _ _).alloc (Nat.le_refl _) _
      have HAP := Lib.hid (append_new (w1.heap.size + 1) w1.heap.size N4 o4 M4 otherN (some ⟨w4.heap.size, 0, none⟩) 1 [120] _ (hl4.below hal).disk (lit_reads w4 [120] (1, 2) (by simp) (by simp)) (fun e => by cases e) (by unfold Files.at; rw [hMo]; rfl) (by decide) (by decide) (by decide) (by omega) (fun l f hf => by have := (htame4 l f hf).2; omega) (hl4.below hal).hB)
      have HL4 := Lib.hid hl4
      have HB4 := Lib.hid (HB3.out.trans (hs4.below (fun k e => HL3.out.disk.owns k e) HL3.out.hB))
      have HM4 := Lib.hid (show M4 voteN = some (sureF (Vt.voteOf t v)) ∧ M4 shotN = some (sureF (Vt.shotOf ti tt timg)) ∧ M4.at otherN = Fil.zero from ⟨hMv, hMs, by unfold Files.at; rw [hMo]; rfl⟩)
      have HAL := Lib.hid hal
      clear hd4 hs4 hN4 hM4 htame4 hMv hMs hMo hl4 hal HK2 HL3 HB3 t0 t1 t2 hN3b
      simp only [List.map_cons, List.map_nil, List.length_cons, List.length_nil, Nat.zero_add] at HAP HAL
      have hcv := Lib.run_convert_bytes_const (P := Try.prog) w4 25 5 #[.int .u8 120] 1 1 Try.underlying25 Try.underlying5
      simp only [List.size_toArray, List.length_cons, List.length_nil, Nat.reduceAdd] at hcv
      go_wp2_with fail
      refine HAP.out.mono ?_
      rintro e w5 ⟨rfl, o5, hd5, hs5⟩
      rw [HM4.out.2.2] at hd5
      obtain ⟨N5, hN5⟩ : ∃ N5, N5 = cntN M4 otherN N4 := ⟨_, rfl⟩
      have hN5b : N5 ≤ 23 := by have := cntN_le M4 otherN N4; omega
      rw [← hN5] at hd5
      have htame5 : Tame (upd M4 otherN (some (Fil.zero.chg ⟨true, [120], 1⟩))) := tame_upd HL4.out.tame (by decide) fun f e => by cases e; simp [Fil.chg, Fil.zero]
      have hl5 := (HL4.out.below HAL.out).step hs5 hd5 htame5 (by omega)
      obtain ⟨M5, hM5⟩ : ∃ M5, M5 = upd M4 otherN (some (Fil.zero.chg ⟨true, [120], 1⟩)) := ⟨_, rfl⟩
      rw [← hM5] at hl5
      have hMv : M5 voteN = some (sureF (Vt.voteOf t v)) := by rw [hM5, upd_other _ _ (by decide)]; exact HM4.out.1
      have hMs : M5 shotN = some (sureF (Vt.shotOf ti tt timg)) := by rw [hM5, upd_other _ _ (by decide)]; exact HM4.out.2.1
      have hb5 := (HB4.out.trans (HAL.out.mono HB4.out.size)).trans (hs5.below (fun k e => (HL4.out.below HAL.out).disk.owns k e) (HL4.out.below HAL.out).hB)
      have hst : Stay w5 o5 na ss := ⟨fun k hk9 => by
        obtain ⟨gs, of, h1, h2, h3⟩ := HSS.out k hk9
        have hbw := HB1.out.trans (hb5.mono HB1.out.size)
        refine ⟨gs, of, h1, Nat.lt_of_lt_of_le h2 hbw.size, ?_, (hbw.cell (p := ⟨gs, of + k, none⟩) h2).trans h3⟩
        cases ho : o5 gs with
        | none => rfl
        | some tg =>
          have := (hl5.disk.owns gs (by rw [ho]; simp)).1
          omega, HWF.out⟩
      have HCR := Lib.hid (crash_any (w1.heap.size + 1) w1.heap.size N5 o5 M5 na nc ss w5 hl5.disk hst hl5.tame.good (by omega))
      have HL5 := Lib.hid hl5
      have HB5 := Lib.hid hb5
      have HM5 := Lib.hid (And.intro hMv hMs)
      clear hd5 hs5 hN5 hM5 htame5 hMv hMs hl5 hb5 hst HAP HAL HL4 HB4 hN4b HM4 hcv
      go_wp2_with fail
      refine HCR.out.mono ?_
      rintro e w6 ⟨rfl, ks, o6, hks, hd6, hs6⟩
      have hl6 := HL5.out.step hs6 hd6 (tame_crashed HL5.out.tame hks _) HL5.out.few
      obtain ⟨M6, hM6⟩ : ∃ M6, M6 = crashed M5 ks (stayN ss) := ⟨_, rfl⟩
      have hMv : M6.at voteN = sureF (Vt.voteOf t v) := by
        unfold Files.at
        rw [hM6, crashed_keep _ hks (fun f hf => by rw [HM5.out.1] at hf; cases hf; rfl), HM5.out.1]
        rfl
      have hMs : M6.at shotN = sureF (Vt.shotOf ti tt timg) := by
        unfold Files.at
        rw [hM6, crashed_keep _ hks (fun f hf => by rw [HM5.out.2] at hf; cases hf; rfl), HM5.out.2]
        rfl
      rw [← hM6] at hl6
      have HGT := Lib.hid (get_there (w1.heap.size + 1) w1.heap.size N5 o6 M6 w6 hl6 (by rw [hMv]; rfl) (by rw [hMv]; have := vote_len t v; show (Vt.voteOf t v).length ≤ _; omega))
      rw [hMv] at HGT
      have HL6 := Lib.hid hl6
      have HB6 := Lib.hid (HB5.out.trans (hs6.below (fun k e => HL5.out.disk.owns k e) HL5.out.hB))
      have HM6 := Lib.hid (And.intro hMv hMs)
      clear hks hd6 hs6 hl6 hM6 hMv hMs HCR HL5 HB5 HM5
      go_wp2_with fail
      refine HGT.out.mono ?_
      rintro e w7 ⟨hb7, r7, hr7, rfl⟩
      rw [getV_some hr7 rfl HTV.out.1 HTV.out.2]
      simp only [getV]
      have hal : Below w7.heap.size w7 (w7.alloc (.cells #[.int .u64 (t : Int), .int .u64 (v : Int)] 24)) := (Below.refl _ _).alloc (Nat.le_refl _) _
      have hp7 : (w7.alloc (.cells #[.int .u64 (t : Int), .int .u64 (v : Int)] 24)).heap[w7.heap.size]? = some (.cells #[.int .u64 (t : Int), .int .u64 (v : Int)] 24 (0, 0)) := heap_alloc_new _ _
      have hbb := hb7.trans (hal.mono hb7.size)
      have hl7 := HL6.out.below hbb
      have HKP := Lib.hid (kept_there (w1.heap.size + 1) w1.heap.size N5 o6 M6 _ hl7 (by rw [HM6.out.2]; rfl) (by rw [HM6.out.2]; have := shot_len (i := ti) (t := tt) (img := timg) (by have := HCC.out; omega); show (Vt.shotOf ti tt timg).length ≤ _; omega))
      rw [HM6.out.2] at HKP
      have HL7 := Lib.hid hl7
      have HB7 := Lib.hid (HB6.out.trans (hbb.mono HB6.out.size))
      have HP7 := Lib.hid hp7
      have hs7 : w1.heap.size ≤ w7.heap.size := Nat.le_trans HB6.out.size hb7.size
      clear hb7 hr7 hal hp7 hbb hl7 HGT HL6 HB6
      go_wp2_with fail
      refine HKP.out.mono ?_
      rintro e w8 ⟨hb8, r8, hr8, hkv⟩
      obtain rfl := hr8.one (.yes ⟨ti, tt, timg⟩ ⟨HNM.out.2.1, HNM.out.2.2, by have := HCC.out; show timg.length ≤ _; omega, HTR.out.1.hr⟩ rfl)
      obtain ⟨v8, rfl, hrow8⟩ := hkv
      obtain ⟨va, vc, rfl⟩ := hrow8.shape
      dsimp only at hrow8 ⊢
      have hal : Below w8.heap.size w8 (w8.alloc (.cells #[.int .u64 (ti : Int), .int .u64 (tt : Int), .slice va timg.length vc] 27)) := (Below.refl _ _).alloc (Nat.le_refl _) _
      have hk8 : (w8.alloc (.cells #[.int .u64 (ti : Int), .int .u64 (tt : Int), .slice va timg.length vc] 27)).heap[w8.heap.size]? = some (.cells #[.int .u64 (ti : Int), .int .u64 (tt : Int), .slice va timg.length vc] 27 (0, 0)) := heap_alloc_new _ _
      obtain ⟨wB, hwB⟩ : ∃ wB, wB = w8.alloc (.cells #[.int .u64 (ti : Int), .int .u64 (tt : Int), .slice va timg.length vc] 27) := ⟨_, rfl⟩
      rw [← hwB] at hal hk8
      have hbb := hb8.trans (hal.mono hb8.size)
      have hpB := (hbb.block _ (lt_of_block HP7.out)).trans HP7.out
      have hBB := HB7.out.trans (hbb.mono HB7.out.size)
      have hB0 := HB1.out.trans (hBB.mono HB1.out.size)
      obtain ⟨m, hm⟩ : ∃ m, l.length = m + 1 := ⟨l.length - 1, by have := HCC.out; omega⟩
      have hlc := HLC.out
      rw [hm] at hlc
      simp only [Nat.add_sub_cancel] at hlc
      have l0 := (hB0.cell (p := ⟨b, q + m * 2, none⟩) hlc.1).trans hlc.2.1
      have l1 := (hB0.cell (p := ⟨b, q + m * 2 + 1, none⟩) hlc.1).trans hlc.2.2
      obtain ⟨p0, p1⟩ := two_at hpB
      obtain ⟨k0, k1, k2⟩ := three_at hk8
      obtain ⟨t0, t1, t2⟩ := three_at ((hBB.block _ (lt_of_block HTB1.out)).trans HTB1.out)
      have cv1 := fun (W : World) (hW : Below wB.heap.size wB W) => hrow8.text (hal.trans (hW.mono hal.size))
      have cv2 := fun (W : World) (hW : Below wB.heap.size wB W) => ((HTR.out.1.below hB0).below hW).text timg.length tc rfl
      generalize strOfNums timg = S at cv1 cv2
      have CV1 := Lib.hid cv1
      have CV2 := Lib.hid cv2
      have HWB := Lib.hid hwB
      clear cv1 cv2 hwB
      have HLB := Lib.hid (HL7.out.below hbb)
      have HBB := Lib.hid hBB
      have HM := Lib.hid hm
      have HTBB := Lib.hid ((hBB.block _ (lt_of_block HTB1.out)).trans HTB1.out)
      clear hb8 hr8 hrow8 hal hk8 hbb hpB hBB hB0 hlc HKP HL7 HB7 HP7 hs7 hl20 hl1
      have HL20 := Lib.hid (show m ≤ 19 by have := HCC.out; omega)
      rw [hm]
      clear hm
      go_wp2_with fail
      rw [← HWB.out]
      have hmw : IntKind.i64.wrap (m : Int) = (m : Int) := IntWalk.i64_in _ (by have := HL20.out; omega)
      have hmi : (0 ≤ (m : Int) ∧ (m : Int) < (m : Int) + 1) := by omega
      refine wp_region_held_drew (S := (fun W => W.cell? ⟨w7.heap.size, 0, none⟩ = some (.int .u64 (t : Int)) ∧ W.cell? ⟨w7.heap.size, 1, none⟩ = some (.int .u64 (v : Int)) ∧ W.cell? ⟨w8.heap.size, 0, none⟩ = some (.int .u64 (ti : Int)) ∧ W.cell? ⟨w8.heap.size, 1, none⟩ = some (.int .u64 (tt : Int)) ∧ W.cell? ⟨w8.heap.size, 2, none⟩ = some (.slice va timg.length vc) ∧ W.cell? ⟨w.heap.size + 1, 0, none⟩ = some (.int .u64 (ti : Int)) ∧ W.cell? ⟨w.heap.size + 1, 1, none⟩ = some (.int .u64 (tt : Int)) ∧ W.cell? ⟨w.heap.size + 1, 2, none⟩ = some (.slice ta timg.length tc) ∧ W.cell? ⟨b, q + m * 2, none⟩ = some (.int .u64 (t : Int)) ∧ W.cell? ⟨b, q + m * 2 + 1, none⟩ = some (.int .u64 (v : Int)) ∧ (convert 25 9 (.slice va timg.length vc)).run Try.prog W = .ok (.string S) W ∧ (convert 25 9 (.slice ta timg.length tc)).run Try.prog W = .ok (.string S) W ∧ Below wB.heap.size wB W)) (by kernel_rfl) ⟨p0, p1, k0, k1, k2, t0, t1, t2, l0, l1, CV1.out _ (Below.refl _ _).drew, CV2.out _ (Below.refl _ _).drew, (Below.refl _ _).drew⟩ (fun hHeld => ?_)
      refine wpAnyH_take (i := 0) (oi := ?_) (v := ?_) ?_ (by kernel_rfl) (by kernel_rfl) (by kernel_rfl) ?_ (Or.inl ⟨?_, ?_⟩) (by assumption) ?_
      rotate_left 2
      focus (simp only [List.getElem?_toArray, List.getElem?_cons_zero]; rfl)
      focus exact fun _ _ _ h => h
      focus rfl
      focus (intro W hS; (try dsimp only at hS); obtain ⟨p0, p1, k0, k1, k2, t0, t1, t2, l0, l1, cv1, cv2, hbb⟩ := hS; go_simp; (try with_reducible rfl))
      try simp only [Act.put]
      try simp only [List.setIfInBounds_toArray]
      try simp only [List.set_cons_succ]
      try simp only [List.set_cons_zero]
      refine wpAnyH_take (i := 1) (oi := ?_) (v := ?_) ?_ (by kernel_rfl) (by kernel_rfl) (by kernel_rfl) ?_ (Or.inl ⟨?_, ?_⟩) (by assumption) ?_
      rotate_left 2
      focus (simp only [List.getElem?_toArray, List.getElem?_cons_succ, List.getElem?_cons_zero]; rfl)
      focus exact fun _ _ _ h => h
      focus rfl
      focus (intro W hS; (try dsimp only at hS); obtain ⟨p0, p1, k0, k1, k2, t0, t1, t2, l0, l1, cv1, cv2, hbb⟩ := hS; go_simp; (try with_reducible rfl))
      try simp only [Act.put]
      try simp only [List.setIfInBounds_toArray]
      try simp only [List.set_cons_succ]
      try simp only [List.set_cons_zero]
      refine wpAnyH_take (i := 2) (oi := ?_) (v := ?_) ?_ (by kernel_rfl) (by kernel_rfl) (by kernel_rfl) ?_ (Or.inl ⟨?_, ?_⟩) (by assumption) ?_
      rotate_left 2
      focus (simp only [List.getElem?_toArray, List.getElem?_cons_succ, List.getElem?_cons_zero]; rfl)
      focus exact fun _ _ _ h => h
      focus rfl
      focus (intro W hS; (try dsimp only at hS); obtain ⟨p0, p1, k0, k1, k2, t0, t1, t2, l0, l1, cv1, cv2, hbb⟩ := hS; go_simp; (try with_reducible rfl))
      try simp only [Act.put]
      try simp only [List.setIfInBounds_toArray]
      try simp only [List.set_cons_succ]
      try simp only [List.set_cons_zero]
      refine wpAnyH_take (i := 3) (oi := ?_) (v := ?_) ?_ (by kernel_rfl) (by kernel_rfl) (by kernel_rfl) ?_ (Or.inl ⟨?_, ?_⟩) (by assumption) ?_
      rotate_left 2
      focus (simp only [List.getElem?_toArray, List.getElem?_cons_succ, List.getElem?_cons_zero]; rfl)
      focus exact fun _ _ _ h => h
      focus rfl
      focus (intro W hS; (try dsimp only at hS); obtain ⟨p0, p1, k0, k1, k2, t0, t1, t2, l0, l1, cv1, cv2, hbb⟩ := hS; go_simp; (try with_reducible rfl))
      try simp only [Act.put]
      try simp only [List.setIfInBounds_toArray]
      try simp only [List.set_cons_succ]
      try simp only [List.set_cons_zero]
      refine wpAnyH_take (i := 4) (oi := ?_) (v := ?_) ?_ (by kernel_rfl) (by kernel_rfl) (by kernel_rfl) ?_ (Or.inl ⟨?_, ?_⟩) (by assumption) ?_
      rotate_left 2
      focus (simp only [List.getElem?_toArray, List.getElem?_cons_succ, List.getElem?_cons_zero]; rfl)
      focus exact fun _ _ _ h => h
      focus rfl
      focus (intro W hS; (try dsimp only at hS); obtain ⟨p0, p1, k0, k1, k2, t0, t1, t2, l0, l1, cv1, cv2, hbb⟩ := hS; go_simp; (try with_reducible rfl))
      try simp only [Act.put]
      try simp only [List.setIfInBounds_toArray]
      try simp only [List.set_cons_succ]
      try simp only [List.set_cons_zero]
      refine wpAnyH_take (i := 5) (oi := ?_) (v := ?_) ?_ (by kernel_rfl) (by kernel_rfl) (by kernel_rfl) ?_ (Or.inl ⟨?_, ?_⟩) (by assumption) ?_
      rotate_left 2
      focus (simp only [List.getElem?_toArray, List.getElem?_cons_succ, List.getElem?_cons_zero]; rfl)
      focus exact fun _ _ _ h => h
      focus rfl
      focus (intro W hS; (try dsimp only at hS); obtain ⟨p0, p1, k0, k1, k2, t0, t1, t2, l0, l1, cv1, cv2, hbb⟩ := hS; go_simp; (try with_reducible rfl))
      try simp only [Act.put]
      try simp only [List.setIfInBounds_toArray]
      try simp only [List.set_cons_succ]
      try simp only [List.set_cons_zero]
      refine wpAnyH_take (i := 6) (oi := ?_) (v := ?_) ?_ (by kernel_rfl) (by kernel_rfl) (by kernel_rfl) ?_ (Or.inl ⟨?_, ?_⟩) (by assumption) ?_
      rotate_left 2
      focus (simp only [List.getElem?_toArray, List.getElem?_cons_succ, List.getElem?_cons_zero]; rfl)
      focus exact fun _ _ _ h => h
      focus rfl
      focus (intro W hS; (try dsimp only at hS); obtain ⟨p0, p1, k0, k1, k2, t0, t1, t2, l0, l1, cv1, cv2, hbb⟩ := hS; go_simp; (try with_reducible rfl))
      try simp only [Act.put]
      try simp only [List.setIfInBounds_toArray]
      try simp only [List.set_cons_succ]
      try simp only [List.set_cons_zero]
      refine wpAnyH_take (i := 7) (oi := ?_) (v := ?_) ?_ (by kernel_rfl) (by kernel_rfl) (by kernel_rfl) ?_ (Or.inl ⟨?_, ?_⟩) (by assumption) ?_
      rotate_left 2
      focus (simp only [List.getElem?_toArray, List.getElem?_cons_succ, List.getElem?_cons_zero]; rfl)
      focus exact fun _ _ _ h => h
      focus rfl
      focus (intro W hS; (try dsimp only at hS); obtain ⟨p0, p1, k0, k1, k2, t0, t1, t2, l0, l1, cv1, cv2, hbb⟩ := hS; go_simp; (try with_reducible rfl))
      try simp only [Act.put]
      try simp only [List.setIfInBounds_toArray]
      try simp only [List.set_cons_succ]
      try simp only [List.set_cons_zero]
      refine wpAnyH_take (i := 8) (oi := ?_) (v := ?_) ?_ (by kernel_rfl) (by kernel_rfl) (by kernel_rfl) ?_ (Or.inl ⟨?_, ?_⟩) (by assumption) ?_
      rotate_left 2
      focus (simp only [List.getElem?_toArray, List.getElem?_cons_succ, List.getElem?_cons_zero]; rfl)
      focus exact fun _ _ _ h => h
      focus rfl
      focus (intro W hS; (try dsimp only at hS); obtain ⟨p0, p1, k0, k1, k2, t0, t1, t2, l0, l1, cv1, cv2, hbb⟩ := hS; go_simp; (try with_reducible rfl))
      try simp only [Act.put]
      try simp only [List.setIfInBounds_toArray]
      try simp only [List.set_cons_succ]
      try simp only [List.set_cons_zero]
      refine wpAnyH_take (i := 9) (oi := ?_) (v := ?_) ?_ (by kernel_rfl) (by kernel_rfl) (by kernel_rfl) ?_ (Or.inl ⟨?_, ?_⟩) (by assumption) ?_
      rotate_left 2
      focus (simp only [List.getElem?_toArray, List.getElem?_cons_succ, List.getElem?_cons_zero]; rfl)
      focus exact fun _ _ _ h => h
      focus rfl
      focus (intro W hS; (try dsimp only at hS); obtain ⟨p0, p1, k0, k1, k2, t0, t1, t2, l0, l1, cv1, cv2, hbb⟩ := hS; go_simp; (try with_reducible rfl))
      try simp only [Act.put]
      try simp only [List.setIfInBounds_toArray]
      try simp only [List.set_cons_succ]
      try simp only [List.set_cons_zero]
      refine wpAnyH_take (i := 10) (oi := ?_) (v := ?_) ?_ (by kernel_rfl) (by kernel_rfl) (by kernel_rfl) ?_ (Or.inl ⟨?_, ?_⟩) (by assumption) ?_
      rotate_left 2
      focus (simp only [List.getElem?_toArray, List.getElem?_cons_succ, List.getElem?_cons_zero]; rfl)
      focus exact fun _ _ _ h => h
      focus rfl
      focus (intro W hS; (try dsimp only at hS); obtain ⟨p0, p1, k0, k1, k2, t0, t1, t2, l0, l1, cv1, cv2, hbb⟩ := hS; go_simp; (try with_reducible rfl))
      try simp only [Act.put]
      try simp only [List.setIfInBounds_toArray]
      try simp only [List.set_cons_succ]
      try simp only [List.set_cons_zero]
      refine wpAnyH_take (i := 11) (oi := ?_) (v := ?_) ?_ (by kernel_rfl) (by kernel_rfl) (by kernel_rfl) ?_ (Or.inl ⟨?_, ?_⟩) (by assumption) ?_
      rotate_left 2
      focus (simp only [List.getElem?_toArray, List.getElem?_cons_succ, List.getElem?_cons_zero]; rfl)
      focus exact fun _ _ _ h => h
      focus rfl
      focus (intro W hS; (try dsimp only at hS); obtain ⟨p0, p1, k0, k1, k2, t0, t1, t2, l0, l1, cv1, cv2, hbb⟩ := hS; go_simp; (try with_reducible rfl))
      try simp only [Act.put]
      try simp only [List.setIfInBounds_toArray]
      try simp only [List.set_cons_succ]
      try simp only [List.set_cons_zero]
      refine wpAnyH_take (i := 12) (oi := ?_) (v := ?_) ?_ (by kernel_rfl) (by kernel_rfl) (by kernel_rfl) ?_ (Or.inl ⟨?_, ?_⟩) (by assumption) ?_
      rotate_left 2
      focus (simp only [List.getElem?_toArray, List.getElem?_cons_succ, List.getElem?_cons_zero]; rfl)
      focus exact fun _ _ _ h => h
      focus rfl
      focus (intro W hS; (try dsimp only at hS); obtain ⟨p0, p1, k0, k1, k2, t0, t1, t2, l0, l1, cv1, cv2, hbb⟩ := hS; go_simp; (try with_reducible rfl))
      try simp only [Act.put]
      try simp only [List.setIfInBounds_toArray]
      try simp only [List.set_cons_succ]
      try simp only [List.set_cons_zero]
      refine wpAnyH_take (i := 13) (oi := ?_) (v := ?_) ?_ (by kernel_rfl) (by kernel_rfl) (by kernel_rfl) ?_ (Or.inl ⟨?_, ?_⟩) (by assumption) ?_
      rotate_left 2
      focus (simp only [List.getElem?_toArray, List.getElem?_cons_succ, List.getElem?_cons_zero]; rfl)
      focus exact fun _ _ _ h => h
      focus rfl
      focus (intro W hS; (try dsimp only at hS); obtain ⟨p0, p1, k0, k1, k2, t0, t1, t2, l0, l1, cv1, cv2, hbb⟩ := hS; go_simp; (try with_reducible rfl))
      try simp only [Act.put]
      try simp only [List.setIfInBounds_toArray]
      try simp only [List.set_cons_succ]
      try simp only [List.set_cons_zero]
      refine wpAnyH_take (i := 14) (oi := ?_) (v := ?_) ?_ (by kernel_rfl) (by kernel_rfl) (by kernel_rfl) ?_ (Or.inl ⟨?_, ?_⟩) (by assumption) ?_
      rotate_left 2
      focus (simp only [List.getElem?_toArray, List.getElem?_cons_succ, List.getElem?_cons_zero]; rfl)
      focus exact fun _ _ _ h => h
      focus rfl
      focus (intro W hS; (try dsimp only at hS); obtain ⟨p0, p1, k0, k1, k2, t0, t1, t2, l0, l1, cv1, cv2, hbb⟩ := hS; go_simp; (try with_reducible rfl))
      try simp only [Act.put]
      try simp only [List.setIfInBounds_toArray]
      try simp only [List.set_cons_succ]
      try simp only [List.set_cons_zero]
      refine wpAnyH_take (i := 15) (oi := ?_) (v := ?_) ?_ (by kernel_rfl) (by kernel_rfl) (by kernel_rfl) ?_ (Or.inl ⟨?_, ?_⟩) (by assumption) ?_
      rotate_left 2
      focus (simp only [List.getElem?_toArray, List.getElem?_cons_succ, List.getElem?_cons_zero]; rfl)
      focus exact fun _ _ _ h => h
      focus rfl
      focus (intro W hS; (try dsimp only at hS); obtain ⟨p0, p1, k0, k1, k2, t0, t1, t2, l0, l1, cv1, cv2, hbb⟩ := hS; go_simp; (try with_reducible rfl))
      try simp only [Act.put]
      try simp only [List.setIfInBounds_toArray]
      try simp only [List.set_cons_succ]
      try simp only [List.set_cons_zero]
      refine wpAnyH_take (i := 16) (oi := ?_) (v := ?_) ?_ (by kernel_rfl) (by kernel_rfl) (by kernel_rfl) ?_ (Or.inl ⟨?_, ?_⟩) (by assumption) ?_
      rotate_left 2
      focus (simp only [List.getElem?_toArray, List.getElem?_cons_succ, List.getElem?_cons_zero]; rfl)
      focus exact fun _ _ _ h => h
      focus rfl
      focus (intro W hS; (try dsimp only at hS); obtain ⟨p0, p1, k0, k1, k2, t0, t1, t2, l0, l1, cv1, cv2, hbb⟩ := hS; go_simp; (try with_reducible rfl))
      try simp only [Act.put]
      try simp only [List.setIfInBounds_toArray]
      try simp only [List.set_cons_succ]
      try simp only [List.set_cons_zero]
      refine wpAnyH_take (i := 17) (oi := ?_) (v := ?_) ?_ (by kernel_rfl) (by kernel_rfl) (by kernel_rfl) ?_ (Or.inl ⟨?_, ?_⟩) (by assumption) ?_
      rotate_left 2
      focus (simp only [List.getElem?_toArray, List.getElem?_cons_succ, List.getElem?_cons_zero]; rfl)
      focus exact fun _ _ _ h => h
      focus rfl
      focus (intro W hS; (try dsimp only at hS); obtain ⟨p0, p1, k0, k1, k2, t0, t1, t2, l0, l1, cv1, cv2, hbb⟩ := hS; go_simp; (try with_reducible rfl))
      try simp only [Act.put]
      try simp only [List.setIfInBounds_toArray]
      try simp only [List.set_cons_succ]
      try simp only [List.set_cons_zero]
      refine wpAnyH_take (i := 18) (oi := ?_) (v := ?_) ?_ (by kernel_rfl) (by kernel_rfl) (by kernel_rfl) ?_ (Or.inl ⟨?_, ?_⟩) (by assumption) ?_
      rotate_left 2
      focus (simp only [List.getElem?_toArray, List.getElem?_cons_succ, List.getElem?_cons_zero]; rfl)
      focus exact fun _ _ _ h => h
      focus rfl
      focus (intro W hS; (try dsimp only at hS); obtain ⟨p0, p1, k0, k1, k2, t0, t1, t2, l0, l1, cv1, cv2, hbb⟩ := hS; go_simp; (try with_reducible rfl))
      try simp only [Act.put]
      try simp only [List.setIfInBounds_toArray]
      try simp only [List.set_cons_succ]
      try simp only [List.set_cons_zero]
      refine wpAnyH_take (i := 19) (oi := ?_) (v := ?_) ?_ (by kernel_rfl) (by kernel_rfl) (by kernel_rfl) ?_ (Or.inl ⟨?_, ?_⟩) (by assumption) ?_
      rotate_left 2
      focus (simp only [List.getElem?_toArray, List.getElem?_cons_succ, List.getElem?_cons_zero]; rfl)
      focus exact fun _ _ _ h => h
      focus rfl
      focus (intro W hS; (try dsimp only at hS); obtain ⟨p0, p1, k0, k1, k2, t0, t1, t2, l0, l1, cv1, cv2, hbb⟩ := hS; go_simp; (try with_reducible rfl))
      try simp only [Act.put]
      try simp only [List.setIfInBounds_toArray]
      try simp only [List.set_cons_succ]
      try simp only [List.set_cons_zero]
      refine wpAnyH_take (i := 20) (oi := ?_) (v := ?_) ?_ (by kernel_rfl) (by kernel_rfl) (by kernel_rfl) ?_ (Or.inl ⟨?_, ?_⟩) (by assumption) ?_
      rotate_left 2
      focus (simp only [List.getElem?_toArray, List.getElem?_cons_succ, List.getElem?_cons_zero]; rfl)
      focus exact fun _ _ _ h => h
      focus rfl
      focus (intro W hS; (try dsimp only at hS); obtain ⟨p0, p1, k0, k1, k2, t0, t1, t2, l0, l1, cv1, cv2, hbb⟩ := hS; go_simp; (try with_reducible rfl))
      try simp only [Act.put]
      try simp only [List.setIfInBounds_toArray]
      try simp only [List.set_cons_succ]
      try simp only [List.set_cons_zero]
      refine wpAnyH_take (i := 21) (oi := ?_) (v := ?_) ?_ (by kernel_rfl) (by kernel_rfl) (by kernel_rfl) ?_ (Or.inl ⟨?_, ?_⟩) (by assumption) ?_
      rotate_left 2
      focus (simp only [List.getElem?_toArray, List.getElem?_cons_succ, List.getElem?_cons_zero]; rfl)
      focus exact fun _ _ _ h => h
      focus rfl
      focus (intro W hS; (try dsimp only at hS); obtain ⟨p0, p1, k0, k1, k2, t0, t1, t2, l0, l1, cv1, cv2, hbb⟩ := hS; go_simp; (try with_reducible rfl))
      try simp only [Act.put]
      try simp only [List.setIfInBounds_toArray]
      try simp only [List.set_cons_succ]
      try simp only [List.set_cons_zero]
      refine wpAnyH_take (i := 22) (oi := ?_) (v := ?_) ?_ (by kernel_rfl) (by kernel_rfl) (by kernel_rfl) ?_ (Or.inl ⟨?_, ?_⟩) (by assumption) ?_
      rotate_left 2
      focus (simp only [List.getElem?_toArray, List.getElem?_cons_succ, List.getElem?_cons_zero]; rfl)
      focus exact fun _ _ _ h => h
      focus rfl
      focus (intro W hS; (try dsimp only at hS); obtain ⟨p0, p1, k0, k1, k2, t0, t1, t2, l0, l1, cv1, cv2, hbb⟩ := hS; go_simp; (try with_reducible rfl))
      try simp only [Act.put]
      try simp only [List.setIfInBounds_toArray]
      try simp only [List.set_cons_succ]
      try simp only [List.set_cons_zero]
      refine wpAnyH_take (i := 23) (oi := ?_) (v := ?_) ?_ (by kernel_rfl) (by kernel_rfl) (by kernel_rfl) ?_ (Or.inl ⟨?_, ?_⟩) (by assumption) ?_
      rotate_left 2
      focus (simp only [List.getElem?_toArray, List.getElem?_cons_succ, List.getElem?_cons_zero]; rfl)
      focus exact fun _ _ _ h => h
      focus rfl
      focus (intro W hS; (try dsimp only at hS); obtain ⟨p0, p1, k0, k1, k2, t0, t1, t2, l0, l1, cv1, cv2, hbb⟩ := hS; go_simp; (try with_reducible rfl))
      try simp only [Act.put]
      try simp only [List.setIfInBounds_toArray]
      try simp only [List.set_cons_succ]
      try simp only [List.set_cons_zero]
      refine wpAnyH_take (i := 24) (oi := ?_) (v := ?_) ?_ (by kernel_rfl) (by kernel_rfl) (by kernel_rfl) ?_ (Or.inl ⟨?_, ?_⟩) (by assumption) ?_
      rotate_left 2
      focus (simp only [List.getElem?_toArray, List.getElem?_cons_succ, List.getElem?_cons_zero]; rfl)
      focus exact fun _ _ _ h => h
      focus rfl
      focus (intro W hS; (try dsimp only at hS); obtain ⟨p0, p1, k0, k1, k2, t0, t1, t2, l0, l1, cv1, cv2, hbb⟩ := hS; go_simp; (try with_reducible rfl))
      try simp only [Act.put]
      try simp only [List.setIfInBounds_toArray]
      try simp only [List.set_cons_succ]
      try simp only [List.set_cons_zero]
      refine wpAnyH_take (i := 25) (oi := ?_) (v := ?_) ?_ (by kernel_rfl) (by kernel_rfl) (by kernel_rfl) ?_ (Or.inl ⟨?_, ?_⟩) (by assumption) ?_
      rotate_left 2
      focus (simp only [List.getElem?_toArray, List.getElem?_cons_succ, List.getElem?_cons_zero]; rfl)
      focus exact fun _ _ _ h => h
      focus rfl
      focus (intro W hS; (try dsimp only at hS); obtain ⟨p0, p1, k0, k1, k2, t0, t1, t2, l0, l1, cv1, cv2, hbb⟩ := hS; go_simp; (try with_reducible rfl))
      try simp only [Act.put]
      try simp only [List.setIfInBounds_toArray]
      try simp only [List.set_cons_succ]
      try simp only [List.set_cons_zero]
      refine wpAnyH_take (i := 26) (oi := ?_) (v := ?_) ?_ (by kernel_rfl) (by kernel_rfl) (by kernel_rfl) ?_ (Or.inl ⟨?_, ?_⟩) (by assumption) ?_
      rotate_left 2
      focus (simp only [List.getElem?_toArray, List.getElem?_cons_succ, List.getElem?_cons_zero]; rfl)
      focus exact fun _ _ _ h => h
      focus rfl
      focus (intro W hS; (try dsimp only at hS); obtain ⟨p0, p1, k0, k1, k2, t0, t1, t2, l0, l1, cv1, cv2, hbb⟩ := hS; go_simp; (try with_reducible rfl))
      try simp only [Act.put]
      try simp only [List.setIfInBounds_toArray]
      try simp only [List.set_cons_succ]
      try simp only [List.set_cons_zero]
      refine wpAnyH_take (i := 27) (oi := ?_) (v := ?_) ?_ (by kernel_rfl) (by kernel_rfl) (by kernel_rfl) ?_ (Or.inl ⟨?_, ?_⟩) (by assumption) ?_
      rotate_left 2
      focus (simp only [List.getElem?_toArray, List.getElem?_cons_succ, List.getElem?_cons_zero]; rfl)
      focus exact fun _ _ _ h => h
      focus rfl
      focus (intro W hS; (try dsimp only at hS); obtain ⟨p0, p1, k0, k1, k2, t0, t1, t2, l0, l1, cv1, cv2, hbb⟩ := hS; go_simp; (try with_reducible rfl))
      try simp only [Act.put]
      try simp only [List.setIfInBounds_toArray]
      try simp only [List.set_cons_succ]
      try simp only [List.set_cons_zero]
      refine wpAnyH_take (i := 28) (oi := ?_) (v := ?_) ?_ (by kernel_rfl) (by kernel_rfl) (by kernel_rfl) ?_ (Or.inl ⟨?_, ?_⟩) (by assumption) ?_
      rotate_left 2
      focus (simp only [List.getElem?_toArray, List.getElem?_cons_succ, List.getElem?_cons_zero]; rfl)
      focus exact fun _ _ _ h => h
      focus rfl
      focus (intro W hS; (try dsimp only at hS); obtain ⟨p0, p1, k0, k1, k2, t0, t1, t2, l0, l1, cv1, cv2, hbb⟩ := hS; go_simp; (try with_reducible rfl))
      try simp only [Act.put]
      try simp only [List.setIfInBounds_toArray]
      try simp only [List.set_cons_succ]
      try simp only [List.set_cons_zero]
      refine wpAnyH_take (i := 29) (oi := ?_) (v := ?_) ?_ (by kernel_rfl) (by kernel_rfl) (by kernel_rfl) ?_ (Or.inl ⟨?_, ?_⟩) (by assumption) ?_
      rotate_left 2
      focus (simp only [List.getElem?_toArray, List.getElem?_cons_succ, List.getElem?_cons_zero]; rfl)
      focus exact fun _ _ _ h => h
      focus rfl
      focus (intro W hS; (try dsimp only at hS); obtain ⟨p0, p1, k0, k1, k2, t0, t1, t2, l0, l1, cv1, cv2, hbb⟩ := hS; go_simp; (try with_reducible rfl))
      try simp only [Act.put]
      try simp only [List.setIfInBounds_toArray]
      try simp only [List.set_cons_succ]
      try simp only [List.set_cons_zero]
      refine wpAnyH_take (i := 30) (oi := ?_) (v := ?_) ?_ (by kernel_rfl) (by kernel_rfl) (by kernel_rfl) ?_ (Or.inl ⟨?_, ?_⟩) (by assumption) ?_
      rotate_left 2
      focus (simp only [List.getElem?_toArray, List.getElem?_cons_succ, List.getElem?_cons_zero]; rfl)
      focus exact fun _ _ _ h => h
      focus rfl
      focus (intro W hS; (try dsimp only at hS); obtain ⟨p0, p1, k0, k1, k2, t0, t1, t2, l0, l1, cv1, cv2, hbb⟩ := hS; go_simp; (try with_reducible rfl))
      try simp only [Act.put]
      try simp only [List.setIfInBounds_toArray]
      try simp only [List.set_cons_succ]
      try simp only [List.set_cons_zero]
      refine wpAnyH_take (i := 31) (oi := ?_) (v := ?_) ?_ (by kernel_rfl) (by kernel_rfl) (by kernel_rfl) ?_ (Or.inl ⟨?_, ?_⟩) (by assumption) ?_
      rotate_left 2
      focus (simp only [List.getElem?_toArray, List.getElem?_cons_succ, List.getElem?_cons_zero]; rfl)
      focus exact fun _ _ _ h => h
      focus rfl
      focus (intro W hS; (try dsimp only at hS); obtain ⟨p0, p1, k0, k1, k2, t0, t1, t2, l0, l1, cv1, cv2, hbb⟩ := hS; go_simp; (try with_reducible rfl))
      try simp only [Act.put]
      try simp only [List.setIfInBounds_toArray]
      try simp only [List.set_cons_succ]
      try simp only [List.set_cons_zero]
      refine wpAnyH_take (i := 32) (oi := ?_) (v := ?_) ?_ (by kernel_rfl) (by kernel_rfl) (by kernel_rfl) ?_ (Or.inl ⟨?_, ?_⟩) (by assumption) ?_
      rotate_left 2
      focus (simp only [List.getElem?_toArray, List.getElem?_cons_succ, List.getElem?_cons_zero]; rfl)
      focus exact fun _ _ _ h => h
      focus rfl
      focus (intro W hS; (try dsimp only at hS); obtain ⟨p0, p1, k0, k1, k2, t0, t1, t2, l0, l1, cv1, cv2, hbb⟩ := hS; go_simp; (try with_reducible rfl))
      try simp only [Act.put]
      try simp only [List.setIfInBounds_toArray]
      try simp only [List.set_cons_succ]
      try simp only [List.set_cons_zero]
      refine wpAnyH_take (i := 33) (oi := ?_) (v := ?_) ?_ (by kernel_rfl) (by kernel_rfl) (by kernel_rfl) ?_ (Or.inl ⟨?_, ?_⟩) (by assumption) ?_
      rotate_left 2
      focus (simp only [List.getElem?_toArray, List.getElem?_cons_succ, List.getElem?_cons_zero]; rfl)
      focus exact fun _ _ _ h => h
      focus rfl
      focus (intro W hS; (try dsimp only at hS); obtain ⟨p0, p1, k0, k1, k2, t0, t1, t2, l0, l1, cv1, cv2, hbb⟩ := hS; go_simp; (try with_reducible rfl))
      try simp only [Act.put]
      try simp only [List.setIfInBounds_toArray]
      try simp only [List.set_cons_succ]
      try simp only [List.set_cons_zero]
      refine wpAnyH_take (i := 34) (oi := ?_) (v := ?_) ?_ (by kernel_rfl) (by kernel_rfl) (by kernel_rfl) ?_ (Or.inl ⟨?_, ?_⟩) (by assumption) ?_
      rotate_left 2
      focus (simp only [List.getElem?_toArray, List.getElem?_cons_succ, List.getElem?_cons_zero]; rfl)
      focus exact fun _ _ _ h => h
      focus rfl
      focus (intro W hS; (try dsimp only at hS); obtain ⟨p0, p1, k0, k1, k2, t0, t1, t2, l0, l1, cv1, cv2, hbb⟩ := hS; go_simp; (try with_reducible rfl))
      try simp only [Act.put]
      try simp only [List.setIfInBounds_toArray]
      try simp only [List.set_cons_succ]
      try simp only [List.set_cons_zero]
      refine wpAnyH_take (i := 35) (oi := ?_) (v := ?_) ?_ (by kernel_rfl) (by kernel_rfl) (by kernel_rfl) ?_ (Or.inl ⟨?_, ?_⟩) (by assumption) ?_
      rotate_left 2
      focus (simp only [List.getElem?_toArray, List.getElem?_cons_succ, List.getElem?_cons_zero]; rfl)
      focus exact fun _ _ _ h => h
      focus rfl
      focus (intro W hS; (try dsimp only at hS); obtain ⟨p0, p1, k0, k1, k2, t0, t1, t2, l0, l1, cv1, cv2, hbb⟩ := hS; go_simp; (try with_reducible rfl))
      try simp only [Act.put]
      try simp only [List.setIfInBounds_toArray]
      try simp only [List.set_cons_succ]
      try simp only [List.set_cons_zero]
      refine wpAnyH_take (i := 36) (oi := ?_) (v := ?_) ?_ (by kernel_rfl) (by kernel_rfl) (by kernel_rfl) ?_ (Or.inl ⟨?_, ?_⟩) (by assumption) ?_
      rotate_left 2
      focus (simp only [List.getElem?_toArray, List.getElem?_cons_succ, List.getElem?_cons_zero]; rfl)
      focus exact fun _ _ _ h => h
      focus rfl
      focus (intro W hS; (try dsimp only at hS); obtain ⟨p0, p1, k0, k1, k2, t0, t1, t2, l0, l1, cv1, cv2, hbb⟩ := hS; go_simp; (try with_reducible rfl))
      try simp only [Act.put]
      try simp only [List.setIfInBounds_toArray]
      try simp only [List.set_cons_succ]
      try simp only [List.set_cons_zero]
      refine wpAnyH_take (i := 37) (oi := ?_) (v := ?_) ?_ (by kernel_rfl) (by kernel_rfl) (by kernel_rfl) ?_ (Or.inl ⟨?_, ?_⟩) (by assumption) ?_
      rotate_left 2
      focus (simp only [List.getElem?_toArray, List.getElem?_cons_succ, List.getElem?_cons_zero]; rfl)
      focus exact fun _ _ _ h => h
      focus rfl
      focus (intro W hS; (try dsimp only at hS); obtain ⟨p0, p1, k0, k1, k2, t0, t1, t2, l0, l1, cv1, cv2, hbb⟩ := hS; go_simp; (try with_reducible rfl))
      try simp only [Act.put]
      try simp only [List.setIfInBounds_toArray]
      try simp only [List.set_cons_succ]
      try simp only [List.set_cons_zero]
      refine wpAnyH_take (i := 38) (oi := ?_) (v := ?_) ?_ (by kernel_rfl) (by kernel_rfl) (by kernel_rfl) ?_ (Or.inl ⟨?_, ?_⟩) (by assumption) ?_
      rotate_left 2
      focus (simp only [List.getElem?_toArray, List.getElem?_cons_succ, List.getElem?_cons_zero]; rfl)
      focus exact fun _ _ _ h => h
      focus rfl
      focus (intro W hS; (try dsimp only at hS); obtain ⟨p0, p1, k0, k1, k2, t0, t1, t2, l0, l1, cv1, cv2, hbb⟩ := hS; go_simp; (try with_reducible rfl))
      try simp only [Act.put]
      try simp only [List.setIfInBounds_toArray]
      try simp only [List.set_cons_succ]
      try simp only [List.set_cons_zero]
      refine wpAnyH_done (by kernel_rfl) ?_ _
      have hBW : Below wB.heap.size wB wB.drew := ⟨rfl, rfl, rfl, Nat.le_refl _, fun _ _ => rfl⟩
      have hal2 : Below wB.heap.size wB (wB.drew.alloc (.cells #[.string ⟨voteN.toArray⟩, .string ⟨shotN.toArray⟩] 52)) := hBW.alloc (Nat.le_refl _) _
      have HCUT := Lib.hid (show AtCut w1 (wB.drew.alloc (.cells #[.string ⟨voteN.toArray⟩, .string ⟨shotN.toArray⟩] 52)) w1.heap.size (w1.heap.size + 1) wB.heap.size (Vt.voteOf t v) (Vt.shotOf ti tt timg) 0 from
        ⟨⟨o6, M6, N5, HLB.out.below hal2, by omega, HLB.out.free (Nat.le_refl _), fun _ => HM6.out.1, fun _ => HM6.out.2, fun h => by omega, fun h => by omega⟩, HBB.out.trans (hal2.mono HBB.out.size), heap_alloc_new wB.drew _⟩)
      have HXB := Lib.hid HBB.out.size
      clear hBW hal2 HLB HBB p0 p1 k0 k1 k2 t0 t1 t2 l0 l1 hHeld hmw hmi HM6 CV1 CV2 HWB HTBB HLC HN hN5b HSS HWF
      go_wp2_with fail
      obtain ⟨L1, hL1⟩ : ∃ L1, L1 = m + 1 := ⟨_, rfl⟩
      rw [← hL1]
      clear hL1
      go_loopw [20] (fun y wr => ∃ i : Nat, i ≤ 2 ∧ y = .int .i64 (i : Int) ∧ AtCut w1 wr w1.heap.size (w1.heap.size + 1) wB.heap.size (Vt.voteOf t v) (Vt.shotOf ti tt timg) i) (fun y _ => 2 - (intOf y).toNat)
      case atStart => exact ⟨0, by omega, rfl, HCUT.out⟩
      case round =>
        clear HCUT
        obtain ⟨i, hi, rfl, hat⟩ := hrel
        have HBL := Lib.hid hat.bel
        have hnm := hat.names
        obtain ⟨o, M, N, hl, hN, hox, hv0, hs1, hv1, hs2⟩ := hat.all
        clear hat
        by_cases hi2 : i < 2
        · obtain ⟨i0, hi0, hz0, hz1, hz2⟩ := info_parts info5
          obtain ⟨nm, r, ls, hnmE, hcell, hfile, hr30, hsm, hrg, hfl⟩ := AtCut.file hi2 hv0 hs1 HTV.out.1 HTV.out.2 HNM.out.2.1 HNM.out.2.2 (by have := HCC.out; omega) HTR.out.1.hr hnm
          have hnl : 1 ≤ nm.length ∧ nm.length ≤ 64 := by rw [hnmE]; split <;> decide
          have hread := read_of (.pointer (some ⟨w1.heap.size + 1, 0, none⟩)) (.string ⟨nm.toArray⟩) wr w1.heap.size o nm (M.at nm) (Lib.hid (file_any (w1.heap.size + 1) w1.heap.size N o M nm wr hl.disk hnl.2)) (Lib.hid fun k e => (hl.disk.owns k e).2) (hl.at_ nm)
          rw [hfile] at hread
          have hF1 : (Frame.flat (r :: ls)).getD 1 0 = (r.length : Int) := by
            rw [Vt.flat_cons, Frame.frame_short r (by omega)]
            rfl
          have hFl : r.length + 6 ≤ (Frame.flat (r :: ls)).length := by
            rw [Vt.flat_cons, List.length_append, Frame.frame_short_len r (by omega)]
            omega
          have hFr := Frame.flat_range hsm hrg
          have HBAD1 := Lib.hid (fun p x h1 h2 h3 h4 => Vt.bad_byte r ls (by omega) (hrg r (by simp)) p x h1 h2 h3 h4)
          have HBAD2 := Lib.hid (Vt.bad_cut (r :: ls) (by simp) hsm hrg)
          simp only [sure_now] at hread
          obtain ⟨F, hF⟩ : ∃ F, F = Frame.flat (r :: ls) := ⟨_, rfl⟩
          rw [← hF] at hread hF1 hFl hFr HBAD1 HBAD2 hfl hfile
          obtain ⟨rl, hrl⟩ : ∃ rl, rl = r.length := ⟨_, rfl⟩
          rw [← hrl] at hF1 hFl HBAD1 hr30
          have HREAD := Lib.hid hread
          have HLV := Lib.hid hl
          have HFR := Lib.hid hFr
          have HFILE := Lib.hid hfile
          have HF1 := Lib.hid hF1
          have HNL := Lib.hid hnl
          have HNE := Lib.hid hnmE
          have HINV := Lib.hid (show N ≤ 23 + i ∧ o wB.heap.size = none ∧ (i ≤ 1 → M.at shotN = sureF (Vt.shotOf ti tt timg)) ∧ (1 ≤ i → Spoilt1 M voteN) from ⟨hN, hox, hs1, hv1⟩)
          have HNAMES := Lib.hid hnm
          clear hread hl hFr hF hrl hsm hrg hfile hF1 hnl hnmE hN hox hs1 hv0 hv1 hs2 hnm
          go_wp2_with fail
          refine HREAD.out.mono ?_
          rintro e w2 ⟨ra, rc, rfl, hrow, hb2⟩
          obtain ⟨ra', rc', he, hh, hn0, hc1, hc2, _⟩ := row_src hrow HFR.out (by omega)
          cases he
          obtain ⟨rg, rfl, hH⟩ : ∃ rg, ra = some ⟨rg, 0, none⟩ ∧ Here w2 rg F := by
            rcases hh with ⟨_, h0⟩ | ⟨rg, h1, h2⟩
            · rw [h0] at hFl; simp at hFl
            · exact ⟨rg, h1, h2⟩
          have b1 : w2.cell? ⟨rg, 1, none⟩ = some (.int .u8 (rl : Int)) := by
            have := hH.reads.at (i := 1) (by omega)
            rw [HF1.out] at this
            rw [← this]
            rfl
          have d1 : decide ((F.length : Int) < 2) = false := by simp; omega
          have d2 : decide ((F.length : Int) < 6 + (rl : Int)) = false := by simp; omega
          have hlit : (w2.alloc (.cells #[] 5)).ownsRow w2.heap.size 5 1 (.slice (some ⟨w2.heap.size, 0, none⟩) 0 0) 0 [] :=
            World.ownsRow_lit w2 #[] 0 (Nat.le_refl _) (by unfold maxLen; omega) rfl
          have hal : Below w2.heap.size w2 (w2.alloc (.cells #[] 5)) := (Below.refl _ _).alloc (Nat.le_refl _) _
          have HNW := Lib.hid (reads_news (hH.reads.below hal))
          have HLIT := Lib.hid hlit
          have HAL := Lib.hid hal
          have HB2 := Lib.hid hb2
          clear hrow hb2 hh hn0 hlit hal HREAD hH
          go_wp2_with (at_builtin; go_loud (refine wpList_append_any _ rfl _ _ 25 rfl w2.heap.size 5 i0 (.int .u8 0) 1 Try.underlying25 hi0 hz0 hz1 hz2 rfl _ _ _ rfl HLIT.out (some ⟨rg, 0, none⟩) F.length rc (F.map (Value.int .u8)) rfl (by simp) (fun e => by cases e) HNW.out (ints_oneCell .u8 _) (by unfold maxLen; omega) (by omega) (by simp) ?_))
          intro v' w3 hown hg
          have hb3 : Below w2.heap.size w2 w3 := HAL.out.grown hg HAL.out.size (fun j e => by simp [Value.ownBlock] at e; omega)
          obtain ⟨cg, cap, rfl, hcg, hlay⟩ := lay_own hown (by omega)
          have hb3w := HB2.out.trans (hb3.mono HB2.out.size)
          have HB3 := Lib.hid hb3w
          have HLAY := Lib.hid hlay
          have hcgw : wr.heap.size ≤ cg := Nat.le_trans HB2.out.size hcg
          have q1 : w3.cell? ⟨cg, 1, none⟩ = some (.int .u8 (rl : Int)) := by rw [hlay.cell 1 (by omega), HF1.out]
          have hcapF : F.length ≤ cap := by
            rcases hown.2 with ⟨he, _⟩ | ⟨_, _, _, he, _, _, h, _⟩
            · cases he
            · cases he; exact h
          have hcell3 := (hb3w.cell (World.block_lt_of_cell? wr _ hcell)).trans hcell
          have HCELL := Lib.hid hcell
          clear hown hg hb3 hb3w hlay HAL HLIT HNW hcell b1 HB2 hcell3
          by_cases hbr : 0 ≤ at_ ∧ by_ ≠ 0
          · obtain ⟨an, rfl⟩ : ∃ an : Nat, at_ = (an : Int) := ⟨at_.toNat, by omega⟩
            have g1 : decide ((0 : Int) ≤ (an : Int)) = true := by simp
            have g2 : ((by_ : Int) != 0) = true := by simp; omega
            obtain ⟨P, hP⟩ : ∃ P, P = an % (6 + rl) := ⟨_, rfl⟩
            have hrl6 : P < 6 + rl := by rw [hP]; exact Nat.mod_lt _ (by omega)
            have hPi : (an : Int) % (6 + (rl : Int)) = (P : Int) := by rw [hP]; simp
            clear hP
            by_cases hp1 : P = 1
            · subst hp1
              simp only [Int.natCast_one] at hPi
              have hpF : 0 < F.length := by omega
              obtain ⟨xn, hxn⟩ : ∃ xn : Nat, F.getD (0) 0 = (xn : Int) := ⟨(F.getD (0) 0).toNat, by have := getD_range HFR.out (0); omega⟩
              have hxn2 : xn < 256 := by have := getD_range HFR.out (0); rw [hxn] at this; omega
              have hby2 := HBY.out
              have hxor := u8_xor_nat xn by_ hxn2 hby2
              have hxlt : xn ^^^ by_ < 256 := Nat.xor_lt_two_pow (n := 8) hxn2 hby2
              have hxne : ((xn ^^^ by_ : Nat) : Int) ≠ (xn : Int) := fun e => hbr.2 (by
                have e2 : xn ^^^ by_ = xn := by omega
                have h := congrArg (fun y => xn ^^^ y) e2
                simp only [Nat.xor_self] at h
                rw [← Nat.xor_assoc, Nat.xor_self, Nat.zero_xor] at h
                exact h)
              have qp : w3.cell? ⟨cg, 0, none⟩ = some (.int .u8 (xn : Int)) := by rw [HLAY.out.cell (0) hpF, hxn]
              have qf : w3.frozen? ⟨cg, 0, none⟩ = false := HLAY.out.free (0)
              have HXN := Lib.hid hxn
              have HXNE := Lib.hid hxne
              have HXL := Lib.hid hxlt
              clear hxn hxne hby2 hxlt hxn2
              have hb4 : Below wr.heap.size wr (w3.setCell ⟨cg, 0, none⟩ (.int .u8 ((xn ^^^ by_ : Nat) : Int))) := (HB3.out.setCell (p := ⟨cg, 0, none⟩) (by show _ ≤ cg; omega) _)
              have hcell4 := (hb4.cell (World.block_lt_of_cell? wr _ HCELL.out)).trans HCELL.out
              have hl4 := HLV.out.below hb4
              have hrd4 : Reads (w3.setCell ⟨cg, 0, none⟩ (.int .u8 ((xn ^^^ by_ : Nat) : Int))) (some ⟨cg, 0, none⟩) (F.set (0) ((xn ^^^ by_ : Nat) : Int)) := (HLAY.out.store (0) _).reads (fun y hy => (List.mem_or_eq_of_mem_set hy).elim (fun h => HFR.out y h) (fun h => by rw [h]; have := HXL.out; omega)) (by rw [List.length_set]; omega)
              have hz4 : F.length = (F.set (0) ((xn ^^^ by_ : Nat) : Int)).length := by rw [List.length_set]
              have HREP := Lib.hid (replace_any (w1.heap.size + 1) w1.heap.size N o M nm (some ⟨cg, 0, none⟩) (F.length) cap (F.set (0) ((xn ^^^ by_ : Nat) : Int)) (w3.setCell ⟨cg, 0, none⟩ (.int .u8 ((xn ^^^ by_ : Nat) : Int))) hl4.disk hz4 hrd4 (fun e => by cases e) (by omega) (.inl (by rw [HFILE.out]; rfl)) HNL.out.1 HNL.out.2 (by have := HINV.out.1; omega) (fun l f hf => by have := (HLV.out.tame l f hf).2; omega) hl4.hB)
              have HB4 := Lib.hid hb4
              have HBD := Lib.hid (show Vt.Bad (F.set (0) ((xn ^^^ by_ : Nat) : Int)) from HBAD1.out (0) _ (by omega) (by omega) (by have := HXL.out; omega) (by rw [HXN.out]; exact HXNE.out))
              have HZ4 := Lib.hid hz4
              clear hb4 hl4 hrd4 hz4
              go_wp2_with fail
              refine HREP.out.mono ?_
              rintro e w5 ⟨rfl, o5, hd5, hs5⟩
              have HNX := Lib.hid (AtCut.next (V := Vt.voteOf t v) hi2 HNE.out HLV.out HINV.out.1 HINV.out.2.1 HINV.out.2.2.1 HINV.out.2.2.2 HFILE.out HBL.out HNAMES.out HB4.out hd5 hs5 HBD.out (by have := HZ4.out; omega))
              clear hd5 hs5 HREP HB4 HBD
              go_wp2_with fail
              go_roundw
              case rel => exact ⟨i + 1, by omega, by go_num, HNX.out⟩
              case measure => simp [intOf]; omega
            · have e1 : ((P : Int) == 1) = false := by rw [beq_eq_false_iff_ne]; omega
              have hpF : P < F.length := by omega
              obtain ⟨xn, hxn⟩ : ∃ xn : Nat, F.getD (P) 0 = (xn : Int) := ⟨(F.getD (P) 0).toNat, by have := getD_range HFR.out (P); omega⟩
              have hxn2 : xn < 256 := by have := getD_range HFR.out (P); rw [hxn] at this; omega
              have hby2 := HBY.out
              have hxor := u8_xor_nat xn by_ hxn2 hby2
              have hxlt : xn ^^^ by_ < 256 := Nat.xor_lt_two_pow (n := 8) hxn2 hby2
              have hxne : ((xn ^^^ by_ : Nat) : Int) ≠ (xn : Int) := fun e => hbr.2 (by
                have e2 : xn ^^^ by_ = xn := by omega
                have h := congrArg (fun y => xn ^^^ y) e2
                simp only [Nat.xor_self] at h
                rw [← Nat.xor_assoc, Nat.xor_self, Nat.zero_xor] at h
                exact h)
              have qp : w3.cell? ⟨cg, P, none⟩ = some (.int .u8 (xn : Int)) := by rw [HLAY.out.cell (P) hpF, hxn]
              have qf : w3.frozen? ⟨cg, P, none⟩ = false := HLAY.out.free (P)
              have HXN := Lib.hid hxn
              have HXNE := Lib.hid hxne
              have HXL := Lib.hid hxlt
              clear hxn hxne hby2 hxlt hxn2
              have hb4 : Below wr.heap.size wr (w3.setCell ⟨cg, P, none⟩ (.int .u8 ((xn ^^^ by_ : Nat) : Int))) := (HB3.out.setCell (p := ⟨cg, P, none⟩) (by show _ ≤ cg; omega) _)
              have hcell4 := (hb4.cell (World.block_lt_of_cell? wr _ HCELL.out)).trans HCELL.out
              have hl4 := HLV.out.below hb4
              have hrd4 : Reads (w3.setCell ⟨cg, P, none⟩ (.int .u8 ((xn ^^^ by_ : Nat) : Int))) (some ⟨cg, 0, none⟩) (F.set (P) ((xn ^^^ by_ : Nat) : Int)) := (HLAY.out.store (P) _).reads (fun y hy => (List.mem_or_eq_of_mem_set hy).elim (fun h => HFR.out y h) (fun h => by rw [h]; have := HXL.out; omega)) (by rw [List.length_set]; omega)
              have hz4 : F.length = (F.set (P) ((xn ^^^ by_ : Nat) : Int)).length := by rw [List.length_set]
              have HREP := Lib.hid (replace_any (w1.heap.size + 1) w1.heap.size N o M nm (some ⟨cg, 0, none⟩) (F.length) cap (F.set (P) ((xn ^^^ by_ : Nat) : Int)) (w3.setCell ⟨cg, P, none⟩ (.int .u8 ((xn ^^^ by_ : Nat) : Int))) hl4.disk hz4 hrd4 (fun e => by cases e) (by omega) (.inl (by rw [HFILE.out]; rfl)) HNL.out.1 HNL.out.2 (by have := HINV.out.1; omega) (fun l f hf => by have := (HLV.out.tame l f hf).2; omega) hl4.hB)
              have HB4 := Lib.hid hb4
              have HBD := Lib.hid (show Vt.Bad (F.set (P) ((xn ^^^ by_ : Nat) : Int)) from HBAD1.out (P) _ (by omega) (by omega) (by have := HXL.out; omega) (by rw [HXN.out]; exact HXNE.out))
              have HZ4 := Lib.hid hz4
              clear hb4 hl4 hrd4 hz4
              go_wp2_with fail
              refine HREP.out.mono ?_
              rintro e w5 ⟨rfl, o5, hd5, hs5⟩
              have HNX := Lib.hid (AtCut.next (V := Vt.voteOf t v) hi2 HNE.out HLV.out HINV.out.1 HINV.out.2.1 HINV.out.2.2.1 HINV.out.2.2.2 HFILE.out HBL.out HNAMES.out HB4.out hd5 hs5 HBD.out (by have := HZ4.out; omega))
              clear hd5 hs5 HREP HB4 HBD
              go_wp2_with fail
              go_roundw
              case rel => exact ⟨i + 1, by omega, by go_num, HNX.out⟩
              case measure => simp [intOf]; omega
          · by_cases h0 : 0 ≤ at_
            · have hby0 : by_ = 0 := by
                rcases Nat.eq_zero_or_pos by_ with h | h
                · exact h
                · exact absurd ⟨h0, by omega⟩ hbr
              have g1 : decide ((0 : Int) ≤ at_) = true := by simpa using h0
              have g2 : ((by_ : Int) != 0) = false := by rw [hby0]; rfl
              clear hby0 hbr
              have hb4 : Below wr.heap.size wr (w3) := HB3.out
              have hcell4 := (hb4.cell (World.block_lt_of_cell? wr _ HCELL.out)).trans HCELL.out
              have hl4 := HLV.out.below hb4
              have hrd4 : Reads (w3) (some ⟨cg, 0, none⟩) (F.take (F.length - 1)) := (HLAY.out.reads HFR.out (by omega)).take _
              have hz4 : F.length - 1 = (F.take (F.length - 1)).length := by rw [List.length_take]; omega
              have HREP := Lib.hid (replace_any (w1.heap.size + 1) w1.heap.size N o M nm (some ⟨cg, 0, none⟩) (F.length - 1) cap (F.take (F.length - 1)) (w3) hl4.disk hz4 hrd4 (fun e => by cases e) (by omega) (.inl (by rw [HFILE.out]; rfl)) HNL.out.1 HNL.out.2 (by have := HINV.out.1; omega) (fun l f hf => by have := (HLV.out.tame l f hf).2; omega) hl4.hB)
              have HB4 := Lib.hid hb4
              have HBD := Lib.hid (show Vt.Bad (F.take (F.length - 1)) from HBAD2.out)
              have HZ4 := Lib.hid hz4
              clear hb4 hl4 hrd4 hz4
              go_wp2_with fail
              refine HREP.out.mono ?_
              rintro e w5 ⟨rfl, o5, hd5, hs5⟩
              have HNX := Lib.hid (AtCut.next (V := Vt.voteOf t v) hi2 HNE.out HLV.out HINV.out.1 HINV.out.2.1 HINV.out.2.2.1 HINV.out.2.2.2 HFILE.out HBL.out HNAMES.out HB4.out hd5 hs5 HBD.out (by have := HZ4.out; omega))
              clear hd5 hs5 HREP HB4 HBD
              go_wp2_with fail
              go_roundw
              case rel => exact ⟨i + 1, by omega, by go_num, HNX.out⟩
              case measure => simp [intOf]; omega
            · have g1 : decide ((0 : Int) ≤ at_) = false := by simpa using h0
              have hb4 : Below wr.heap.size wr (w3) := HB3.out
              have hcell4 := (hb4.cell (World.block_lt_of_cell? wr _ HCELL.out)).trans HCELL.out
              have hl4 := HLV.out.below hb4
              have hrd4 : Reads (w3) (some ⟨cg, 0, none⟩) (F.take (F.length - 1)) := (HLAY.out.reads HFR.out (by omega)).take _
              have hz4 : F.length - 1 = (F.take (F.length - 1)).length := by rw [List.length_take]; omega
              have HREP := Lib.hid (replace_any (w1.heap.size + 1) w1.heap.size N o M nm (some ⟨cg, 0, none⟩) (F.length - 1) cap (F.take (F.length - 1)) (w3) hl4.disk hz4 hrd4 (fun e => by cases e) (by omega) (.inl (by rw [HFILE.out]; rfl)) HNL.out.1 HNL.out.2 (by have := HINV.out.1; omega) (fun l f hf => by have := (HLV.out.tame l f hf).2; omega) hl4.hB)
              have HB4 := Lib.hid hb4
              have HBD := Lib.hid (show Vt.Bad (F.take (F.length - 1)) from HBAD2.out)
              have HZ4 := Lib.hid hz4
              clear hb4 hl4 hrd4 hz4
              go_wp2_with fail
              refine HREP.out.mono ?_
              rintro e w5 ⟨rfl, o5, hd5, hs5⟩
              have HNX := Lib.hid (AtCut.next (V := Vt.voteOf t v) hi2 HNE.out HLV.out HINV.out.1 HINV.out.2.1 HINV.out.2.2.1 HINV.out.2.2.2 HFILE.out HBL.out HNAMES.out HB4.out hd5 hs5 HBD.out (by have := HZ4.out; omega))
              clear hd5 hs5 HREP HB4 HBD
              go_wp2_with fail
              go_roundw
              case rel => exact ⟨i + 1, by omega, by go_num, HNX.out⟩
              case measure => simp [intOf]; omega
        · obtain rfl : i = 2 := by omega
          have hV := hv1 (by omega)
          have hS := hs2 (by omega)
          have HGT := Lib.hid (get_there (w1.heap.size + 1) w1.heap.size N o M wr hl hV.there (by have := hV.len; omega))
          have HLV := Lib.hid hl
          have HVS := Lib.hid (And.intro hV hS)
          clear hl hN hox hv0 hs1 hv1 hs2 hV hS hnm
          go_wp2_with fail
          refine HGT.out.mono ?_
          rintro e w9 ⟨hb9, r9, hr9, rfl⟩
          obtain rfl := hr9.one HVS.out.1.bad.get
          simp only [getV]
          have HKP := Lib.hid (kept_there (w1.heap.size + 1) w1.heap.size N o M w9 (HLV.out.below hb9) HVS.out.2.there (by have := HVS.out.2.len; omega))
          have HB9 := Lib.hid (HBL.out.trans (hb9.mono HBL.out.size))
          clear hb9 hr9 HGT
          go_wp2_with fail
          refine HKP.out.mono ?_
          rintro e w10 ⟨hb10, r10, hr10, hkv⟩
          obtain rfl := hr10.one HVS.out.2.bad.kept
          obtain rfl := hkv
          have HB10 := Lib.hid (HB9.out.trans (hb10.mono HB9.out.size))
          clear hb10 hr10 HKP
          go_wp2_with fail
          go_ret
          exact ⟨rfl, HB1.out.trans (HB10.out.mono HB1.out.size)⟩

end Go.Proofs.Ytaljfpkgancidaa
