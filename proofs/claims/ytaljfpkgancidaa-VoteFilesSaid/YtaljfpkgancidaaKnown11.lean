/- The chapter's rows of layer 11 come out. -/
import Derived.Test.YtaljfpkgancidaaKeptV
namespace Go.Proofs.Ytaljfpkgancidaa
open Go.RowKit Go.Maps Go.Sort Dsk

theorem crashed_keep {M : Files} {ks : List Name} {n : Name} (s : Nat → Nat) (hk : NamesOf M (fun f => f.loose) ks) (hn : ∀ f, M n = some f → f.loose = false) : crashed M ks s n = M n := by
  unfold crashed
  rw [if_neg]
  intro h
  obtain ⟨f, h1, h2⟩ := (hk.2 n).1 h
  have h3 : f.loose = true := h2
  rw [hn f h1] at h3
  cases h3
theorem tame_crashed {M : Files} (h : Tame M) {ks : List Name} {q : Fil → Bool} (hk : NamesOf M q ks) (s : Nat → Nat) : Tame (crashed M ks s) := by
  intro l f hf
  unfold crashed at hf
  split at hf
  · rename_i hl
    obtain ⟨f0, h1, _⟩ := (hk.2 l).1 hl
    refine ⟨(h l f0 h1).1, ?_⟩
    unfold settled at hf
    split at hf
    · cases hf; simp
    · cases hf
  · exact h l f hf

theorem sure_now (zs : List Int) : (sureF zs).now = ⟨true, zs, zs.length⟩ := rfl
theorem vote_len (t v : Nat) : (Vt.voteOf t v).length ≤ 40 := by
  have h1 := Vt.rec2_len t v
  have h2 := Num.put_len (Vt.recOf [t, v]).length
  unfold Vt.voteOf
  rw [Frame.frame_len]
  omega
theorem getV_some {bs : List Int} {t v : Nat} {r : Option (Nat × Nat)} (h : Vt.GetIs bs r) (hb : bs = Vt.voteOf t v) (ht : t < 18446744073709551616) (hv : v < 18446744073709551616) : r = some (t, v) := h.one (.yes t v ht hv hb)

theorem Liv.put {w w' : World} {B g N : Nat} {o o' : Tags} {M : Files} {l : Name} {zs : List Int} (h : Liv w B o g M N) (hs : Step o w o' w') (hd : DiskAt w' B o' g (upd M l (some (sureF zs))) (cntN M l N)) (hl : l.length ≤ 64) (hN : N < 50) : Liv w' B o' g (upd M l (some (sureF zs))) (cntN M l N) :=
  h.step hs hd (tame_upd h.tame hl fun f e => by cases e; simp [sureF]) (by have := cntN_le M l N; omega)

set_option maxRecDepth 100000 in
set_option maxHeartbeats 4000000 in
theorem known11_any (w : World) : Calls Try.prog 5 #[] w fun e w' => e = .returned (.bool true) ∧ Below w.heap.size w w' := by
  have HN := Lib.hid (new_any w)
  go_enter Try.func5, Try.ntmps5
  go_wp2_with fail
  refine HN.out.mono ?_
  rintro e w1 ⟨rfl, hb1, o1, hd1, ho1⟩
  have hl1 : Liv w1 w.heap.size o1 (w.heap.size + 1) (fun _ => none) 0 := ⟨hd1, hb1.size, fun l f hf => (by cases hf), by decide⟩
  have HGET := Lib.hid (get_none (w.heap.size + 1) w.heap.size 0 o1 (fun _ => none) w1 hl1 rfl)
  have HL1 := Lib.hid hl1
  have HB1 := Lib.hid hb1
  clear hl1 hd1 hb1 ho1 HN
  go_wp2_with fail
  refine HGET.out.mono ?_
  rintro e w2 ⟨hb2, rfl⟩
  have HL2 := Lib.hid (HL1.out.below hb2)
  have HB2 := Lib.hid (HB1.out.trans (hb2.mono HB1.out.size))
  clear hb2 HGET HL1 HB1
  have hal : Below w2.heap.size w2 (w2.alloc zeroP) := (Below.refl _ _).alloc (Nat.le_refl _) _
  have HKP := Lib.hid (kept_none (w.heap.size + 1) w.heap.size 0 o1 (fun _ => none) _ (HL2.out.below hal) rfl)
  have HAL := Lib.hid hal
  clear hal
  go_wp2_with fail
  refine HKP.out.mono ?_
  rintro e w3 ⟨hb3, rfl⟩
  have hal2 : Below w3.heap.size w3 (w3.alloc zeroS) := (Below.refl _ _).alloc (Nat.le_refl _) _
  have hb23 := (HAL.out.trans (hb3.mono HAL.out.size))
  have hb24 := hb23.trans (hal2.mono hb23.size)
  have HL4 := Lib.hid (HL2.out.below hb24)
  have HB4 := Lib.hid (HB2.out.trans (hb24.mono HB2.out.size))
  clear hb3 hb23 hb24 hal2 HAL HKP HL2 HB2
  obtain ⟨wa, hwa⟩ : ∃ wa, wa = w3.alloc zeroS := ⟨_, rfl⟩
  rw [← hwa] at HL4 HB4
  have HPT := Lib.hid (voteput_any (w.heap.size + 1) w.heap.size 0 o1 (fun _ => none) 3 2 wa HL4.out (by decide) (by decide))
  rw [hwa] at HPT
  have HWA := Lib.hid hwa
  clear hwa
  go_wp2_with fail
  refine HPT.out.mono ?_
  rintro e w5 ⟨rfl, o5, hd5, hs5⟩
  rw [← HWA.out] at hs5
  have hl5 := HL4.out.put hs5 hd5 (by decide) (by decide)
  obtain ⟨M5, hM5⟩ : ∃ M5, M5 = upd (fun _ => none : Files) voteN (some (sureF (Vt.voteOf 3 2))) := ⟨_, rfl⟩
  obtain ⟨N5, hN5⟩ : ∃ N5, N5 = cntN (fun _ => none : Files) voteN 0 := ⟨_, rfl⟩
  rw [← hM5, ← hN5] at hl5
  have hM5v : M5 voteN = some (sureF (Vt.voteOf 3 2)) := by rw [hM5, upd_same]
  have hM5a : M5.at voteN = sureF (Vt.voteOf 3 2) := by rw [hM5, upd_at]
  have hlo : ∀ f, M5 voteN = some f → f.loose = false := fun f hf => by rw [hM5v] at hf; cases hf; rfl
  have HGT := Lib.hid (get_there (w.heap.size + 1) w.heap.size N5 o5 M5 w5 hl5 (by rw [hM5a]; rfl) (by rw [hM5a]; have := vote_len 3 2; show (Vt.voteOf 3 2).length ≤ _; omega))
  rw [hM5a] at HGT
  have HB5 := Lib.hid (HB4.out.trans ((hs5.below (fun k e => HL4.out.disk.owns k e) HL4.out.hB)))
  have HL5 := Lib.hid hl5
  have HM5 := Lib.hid (And.intro hM5v hlo)
  clear hd5 hs5 hl5 hM5 hN5 hM5v hM5a hlo HPT HL4 HB4 HWA
  go_wp2_with fail
  refine HGT.out.mono ?_
  rintro e w6 ⟨hb6, r6, hr6, rfl⟩
  rw [getV_some hr6 rfl (by decide) (by decide)]
  simp only [getV]
  have hal : Below w6.heap.size w6 (w6.alloc (.cells #[.int .u64 3, .int .u64 2] 24)) := (Below.refl _ _).alloc (Nat.le_refl _) _
  have hp6 : (w6.alloc (.cells #[.int .u64 3, .int .u64 2] 24)).heap[w6.heap.size]? = some (.cells #[.int .u64 3, .int .u64 2] 24 (0, 0)) := heap_alloc_new _ _
  have hbb := hb6.trans (hal.mono hb6.size)
  have HL6 := Lib.hid (HL5.out.below hbb)
  have HB6 := Lib.hid (HB5.out.trans (hbb.mono HB5.out.size))
  have hlb : Below (w6.alloc (.cells #[.int .u64 3, .int .u64 2] 24)).heap.size _ ((w6.alloc (.cells #[.int .u64 3, .int .u64 2] 24)).alloc (.cells #[.int .i64 0] 3)) := (Below.refl _ _).alloc (Nat.le_refl _) _
  have hst := stay_lit (w6.alloc (.cells #[.int .u64 3, .int .u64 2] 24)) o5 [0] (by simp) (fun k e => (HL6.out.disk.owns k e).2)
  have hfree : o5 w6.heap.size = none := HL5.out.free (hb6.size)
  have HCR := Lib.hid (crash_any (w.heap.size + 1) w.heap.size N5 o5 M5 _ 1 [0] _ (HL6.out.below hlb).disk hst HL6.out.tame.good (by have := HL6.out.few; omega))
  have HLB := Lib.hid hlb
  have HP6 := Lib.hid ((hlb.block w6.heap.size (by simp)).trans hp6)
  simp only [World.size_alloc, List.length_cons, List.length_nil, Nat.reduceAdd] at HCR
  have hs7 : w6.heap.size < ((w6.alloc (.cells #[.int .u64 3, .int .u64 2] 24)).alloc (.cells #[.int .i64 0] 3)).heap.size := by simp; omega
  clear hb6 hr6 hal hp6 hbb hlb hst HGT HL5 HB5
  go_wp2_with fail
  refine HCR.out.mono ?_
  rintro e w7 ⟨rfl, ks, o7, hks, hd7, hs⟩
  have hl7 := (HL6.out.below HLB.out).step hs hd7 (tame_crashed HL6.out.tame hks _) HL6.out.few
  have hM7 : (crashed M5 ks (stayN [0])).at voteN = sureF (Vt.voteOf 3 2) := by
    unfold Files.at
    rw [crashed_keep _ hks HM5.out.2, HM5.out.1]
    rfl
  have HGT := Lib.hid (get_there (w.heap.size + 1) w.heap.size N5 o7 _ w7 hl7 (by rw [hM7]; rfl) (by rw [hM7]; have := vote_len 3 2; show (Vt.voteOf 3 2).length ≤ _; omega))
  rw [hM7] at HGT
  have hp7 := (hs.block w6.heap.size hs7 hfree).trans HP6.out
  have HB7 := Lib.hid ((HB6.out.trans (HLB.out.mono HB6.out.size)).trans (hs.below (fun k e => (HL6.out.below HLB.out).disk.owns k e) (HL6.out.below HLB.out).hB))
  have HP7 := Lib.hid hp7
  clear hks hd7 hs hl7 hM7 hp7 HCR HL6 HB6 HLB HP6 HM5 hs7 hfree
  go_wp2_with fail
  refine HGT.out.mono ?_
  rintro e w8 ⟨hb8, r8, hr8, rfl⟩
  rw [getV_some hr8 rfl (by decide) (by decide)]
  simp only [getV]
  have hp8 := (hb8.block w6.heap.size (lt_of_block HP7.out)).trans HP7.out
  have hlt := lt_of_block hp8
  have hal : Below w8.heap.size w8 (w8.alloc (.cells #[.int .u64 3, .int .u64 2] 24)) := (Below.refl _ _).alloc (Nat.le_refl _) _
  have hp9 := (hal.block _ hlt).trans hp8
  obtain ⟨c0, c1⟩ := two_at hp9
  obtain ⟨d0, d1⟩ := two_at (show (w8.alloc (.cells #[.int .u64 3, .int .u64 2] 24)).heap[w8.heap.size]? = _ from heap_alloc_new _ _)
  have HB9 := Lib.hid ((HB7.out.trans (hb8.mono HB7.out.size)).trans (hal.mono (Nat.le_trans HB7.out.size hb8.size)))
  clear hb8 hr8 hp8 hp9 hal HGT HB7 HP7
  go_wp2_with fail
  go_ret
  exact ⟨rfl, HB9.out⟩

end Go.Proofs.Ytaljfpkgancidaa
