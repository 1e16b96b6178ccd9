/- Append of a whole log: what the disk's Append, put and a chain of puts leave. Entries, Compact, by their contracts. Open, Append and Entries of a whole log, by their contracts. The chapter's rows of layer 10 come out. -/
import Derived.Test.YtmfemedcjgeheaaGreatDoorApp10
namespace Go.Proofs.YtmfemedcjgeheaaGreatDoor
open Go.RowKit Go.Maps Go.Sort Dsk Wl

section
variable {B g N : Nat} {M : Files} {L : List (Nat × List Ent)} {E E' : List Ent} {e : Ent}

theorem appends_any (B g : Nat) (M : Files) (N : Nat) (l : Name) (zs : List Int) (hT : Tame M) (hz : zs.length ≤ 1048576) (ht : (M.at l).now.there = true → (M.at l).now.bs.length + zs.length ≤ 1048576) (h1 : 1 ≤ l.length) (h2 : l.length ≤ 64) (hN : N < 64) :
    AppendsTo B g M N l zs 0 (upd M l (some (appF (M.at l) zs))) (cntN M l N) := by
  intro w o a cap hd hB hr hna
  cases hth : (M.at l).now.there with
  | true =>
    have hap : appF (M.at l) zs = (M.at l).app zs := if_pos hth
    rw [hap]
    exact append_there g B N o M l a cap zs w hd hr hna hth (ht hth) h1 h2 (by omega) (by have := hT.at_ l; omega) hB
  | false =>
    have hap : appF (M.at l) zs = (M.at l).chg ⟨true, zs, zs.length⟩ := if_neg (by rw [hth]; decide)
    rw [hap]
    exact append_new g B N o M l a cap zs w hd hr hna hth hz h1 h2 hN (fun l f hf => by have := (hT l f hf).2; omega) hB

theorem app_later (f : Fil) (zs : List Int) : (f.app zs).later.length = f.later.length := by
  by_cases h : f.later = []
  · rw [Fil.app_nil h, h]
  · obtain ⟨l, v, hl⟩ : ∃ l v, f.later = l ++ [v] := ⟨f.later.dropLast, f.later.getLast h, (List.dropLast_concat_getLast h).symm⟩
    rw [Fil.app_some hl, hl]
    simp
theorem tame_sync (h : Tame M) (c : Cur) : Tame (syncM M c) := by
  unfold syncM
  split
  · refine tame_upd h (by rw [name_len]; decide) fun f hf => ?_
    unfold settled at hf
    split at hf
    · cases hf; simp
    · cases hf
  · exact h
theorem tame_put {c : Cur} (h : Tame M) (hg : ((syncM M c).at (nameOf c.next.num)).now.there = false → syncM M c (nameOf c.next.num) = none) (e : Ent) : Tame (putM M c e) := by
  have hs := tame_sync h c
  refine tame_upd hs (by rw [name_len]; decide) fun f hf => ?_
  cases hf
  unfold appF
  split
  · rw [app_later]; exact hs.at_ _
  · rename_i hn
    have hn1 := hg (by simpa using hn)
    rw [Files.at, hn1]
    simp [Fil.chg, Fil.zero]

/-- where the next entry goes there is room, or nothing -/
theorem Wl.Whole.next (h : Whole M L E) (hk : (curL L).num < 99999999) :
    ((((syncM M (curL L)).at (nameOf (curL L).next.num)).now.there = false) → syncM M (curL L) (nameOf (curL L).next.num) = none) ∧
    (((syncM M (curL L)).at (nameOf (curL L).next.num)).now.there = true → ((syncM M (curL L)).at (nameOf (curL L).next.num)).now.bs.length ≤ 20000) := by
  by_cases hL : L = []
  · subst hL
    have hs : syncM M (curL []) = M := rfl
    have hn : (curL []).next = ⟨1, 0⟩ := next_zero 0
    rw [hs, hn]
    have hth : (M.at (nameOf 1)).now.there = false := by
      cases ht : (M.at (nameOf 1)).now.there with
      | false => rfl
      | true => have := (h.segs.2 1 _).2 ⟨⟨by decide, by decide⟩, ht, rfl⟩; simp at this
    exact ⟨fun _ => h.gone 1 (by decide) (by decide) hth, fun e => by rw [hth] at e; cases e⟩
  · obtain ⟨L, x, rfl⟩ : ∃ L' x, L = L' ++ [x] := ⟨L.dropLast, L.getLast hL, (List.dropLast_concat_getLast hL).symm⟩
    obtain ⟨hx1, hx2, hx3, hx4⟩ := h.last
    rw [curL_snoc] at hk ⊢
    dsimp only at hk
    by_cases h8 : 8 ≤ x.2.length
    · have hs : syncM M ⟨x.1, x.2.length⟩ = upd M (nameOf x.1) (settled (M.at (nameOf x.1)).now) := if_pos h8
      have hne1 : nameOf (x.1 + 1) ≠ nameOf x.1 := fun e0 => by
        have := name_inj (j := x.1 + 1) (k := x.1) ⟨by omega, by omega⟩ hx1 e0
        omega
      have hth : (M.at (nameOf (x.1 + 1))).now.there = false := by
        cases ht : (M.at (nameOf (x.1 + 1))).now.there with
        | false => rfl
        | true =>
          have hm := (h.segs.2 (x.1 + 1) _).2 ⟨⟨by omega, by omega⟩, ht, rfl⟩
          obtain ⟨y, hy, hye⟩ := List.mem_map.1 hm
          simp only [Prod.mk.injEq] at hye
          rcases List.mem_append.1 hy with hy | hy
          · have := hx4 y hy; omega
          · simp at hy; subst hy; omega
      rw [next_full h8, hs]
      dsimp only
      rw [upd_at_other _ _ hne1, upd_other _ _ hne1, hth]
      exact ⟨fun _ => h.gone _ (by omega) (by omega) hth, fun e => by cases e⟩
    · have hs : syncM M ⟨x.1, x.2.length⟩ = M := if_neg h8
      rw [next_same (by omega) h8, hs]
      dsimp only
      rw [hx2, ← hx3]
      exact ⟨fun e => (by cases e), fun _ => by have := (flatE_len (h.ok x (by simp))).2; omega⟩

theorem curL_put (L : List (Nat × List Ent)) (hL : ∀ x ∈ L, 1 ≤ x.1) (e : Ent) : curL (putL L e) = ⟨(curL L).next.num, (curL L).next.n + 1⟩ := by
  by_cases hn : L = []
  · subst hn; rfl
  · obtain ⟨L, x, rfl⟩ : ∃ L' x, L = L' ++ [x] := ⟨L.dropLast, L.getLast hn, (List.dropLast_concat_getLast hn).symm⟩
    have hx := hL x (by simp)
    rw [curL_snoc]
    by_cases h8 : 8 ≤ x.2.length
    · rw [putL_full e h8, curL_snoc, next_full h8]; rfl
    · rw [putL_more e h8, curL_snoc, next_same (by omega) h8]; simp
theorem Wl.Whole.pos (h : Whole M L E) : ∀ x ∈ L, 1 ≤ x.1 := fun x hx => ((h.segs.2 x.1 (flatE x.2)).1 (List.mem_map.2 ⟨x, hx, rfl⟩)).1.1

theorem StepU.below {w w' : World} {o o' : Tags} {u : Nat} (hs : StepU u o w o' w') (ho : ∀ k, o k ≠ none → B ≤ k) (hu : B ≤ u) (hB : B ≤ w.heap.size) : Below B w w' :=
  ⟨hs.os, hs.tape, hs.output, hs.size, fun k hk => hs.block k (by omega) (by omega) (by
    cases e : o k with
    | none => rfl
    | some t => have := ho k (by rw [e]; simp); omega)⟩
theorem Live.stepU {w w' : World} {o o' : Tags} {u N' : Nat} {M' : Files} (h : Live w B o g M N) (hs : StepU u o w o' w') (hu : B ≤ u) (hd : DiskAt w' B o' g M' N') (hg : Tame M') (hN : N' ≤ 5000) : Live w' B o' g M' N' :=
  ⟨h.tabs.below (hs.below (fun k e => (h.disk.owns k e).1) hu h.hB), hd, Nat.le_trans h.hB hs.size, hg, hN⟩

/-- one more entry goes behind a whole log -/
theorem puts_any (h : Whole M L E) (hT : Tame M) (he : e.ok) (hk : (curL L).num < 99999999) (hc : (curL L).n ≤ 1000000000) (hN : N < 64) :
    PutsTo B g M N (curL L) e 0 (putM M (curL L) e) (cntN (syncM M (curL L)) (nameOf (curL L).next.num) N) (curL (putL L e)) := by
  intro w o sb U a cp hl hsb hr hU hB
  obtain ⟨hn1, hn2⟩ := h.next hk
  have hT2 := tame_put hT hn1 e
  have hA := Lib.hid (appends_any B g (syncM M (curL L)) N (nameOf (curL L).next.num) (frm e) (tame_sync hT _) (by have := (frm_len he).2; omega) (fun ht => by have := (frm_len he).2; have := hn2 ht; omega) (by rw [name_len]; decide) (by rw [name_len]; decide) hN)
  have hcnt := cntN_le (syncM M (curL L)) (nameOf (curL L).next.num) N
  rw [curL_put L h.pos e]
  obtain ⟨N2, hN2⟩ : ∃ N2, N2 = cntN (syncM M (curL L)) (nameOf (curL L).next.num) N := ⟨_, rfl⟩
  rw [← hN2] at hA hcnt ⊢
  obtain ⟨M2, hM2⟩ : ∃ M2, M2 = putM M (curL L) e := ⟨_, rfl⟩
  have hM3 : upd (syncM M (curL L)) (nameOf (curL L).next.num) (some (appF ((syncM M (curL L)).at (nameOf (curL L).next.num)) (frm e))) = M2 := hM2.symm
  rw [hM3] at hA
  rw [← hM2] at hT2 ⊢
  have fin : ∀ {r : Ending} {w' : World} {c2 : Cur}, (r = .returned (.int .i64 0) ∧ ∃ o', DiskAt w' B o' g M2 N2 ∧ StepU sb o w o' w' ∧ SBox w' o' sb c2) → r = .returned (.int .i64 0) ∧ ∃ o', Live w' B o' g M2 N2 ∧ StepU sb o w o' w' ∧ SBox w' o' sb c2 := by
    rintro r w' c2 ⟨rfl, o', a1, a2, a3⟩
    exact ⟨rfl, o', hl.stepU a2 hB a1 hT2 (by omega), a2, a3⟩
  by_cases h8 : 8 ≤ (curL L).n
  · have hk1 : 1 ≤ (curL L).num ∧ (M (nameOf (curL L).num)).isSome = true := by
      by_cases hL : L = []
      · subst hL; exact absurd h8 (by decide)
      · obtain ⟨L, x, rfl⟩ : ∃ L' x, L = L' ++ [x] := ⟨L.dropLast, L.getLast hL, (List.dropLast_concat_getLast hL).symm⟩
        obtain ⟨hx1, hx2, _, _⟩ := h.last
        rw [curL_snoc]
        exact ⟨hx1.1, there_some hx2⟩
    have hnx : (curL L).next = ⟨(curL L).num + 1, 0⟩ := next_full h8
    rw [hnx] at hA ⊢
    exact (put_full hl sb (curL L) e a cp U hsb ⟨hk1.1, hk⟩ h8 hc hk1.2 hU he hr hB hA).mono fun r w' hh => fin hh
  · have hs : syncM M (curL L) = M := if_neg h8
    rw [hs] at hA
    by_cases hk0 : (curL L).num = 0
    · have hnx : (curL L).next = ⟨(curL L).num + 1, 0⟩ := by
        have : (curL L).fresh = true := by simp [Cur.fresh, hk0]
        rw [Cur.next, if_pos this]
      rw [hnx] at hA ⊢
      exact (put_first hl sb (curL L) e a cp U hsb hk0 (Nat.lt_of_not_le h8) hU he hr hB hA).mono fun r w' hh => fin hh
    · have hnx : (curL L).next = curL L := next_same hk0 h8
      rw [hnx] at hA ⊢
      exact (put_more hl sb (curL L) e a cp U hsb (by simp [Cur.fresh, hk0, h8]) (Nat.le_of_lt hk) he hr hB hA).mono fun r w' hh => fin hh
end

end Go.Proofs.YtmfemedcjgeheaaGreatDoor

namespace Go.Proofs.YtmfemedcjgeheaaGreatDoor
open Go.RowKit Go.Maps Go.Sort Dsk Wl

/-- the segments, and the entries, that a disk has -/
def segsAt (M : Files) (ks : List Name) : List Sg := (readGo (segsOf M (numsOf ks)) []).1
def entsAt (M : Files) (ks : List Name) : List Ent := (readGo (segsOf M (numsOf ks)) []).2

set_option maxRecDepth 100000 in
set_option maxHeartbeats 1000000 in
theorem entries_any {w : World} {B g N : Nat} {o : Tags} {M : Files} (h : Live w B o g M N) (hb : Nat) (hw : WalAt w o hb g) :
    Calls Tryz.prog 24 #[.pointer (some ⟨hb, 0, none⟩)] w fun r w' => ∃ ks v, NamesOf M (fun f => f.now.there) ks ∧ r = .returned v ∧ EntRow w' w.heap.size (entsAt M ks) v ∧ Below w.heap.size w w' := by
  have hc := hw.cell
  have HRD := Lib.hid h.read
  clear h hw
  go_enter Tryz.func24, Tryz.ntmps24
  go_wp2_with fail
  refine HRD.out.mono ?_
  rintro r w2 ⟨ks, v1, v2, hks, _, rfl, htold⟩
  have HT := Lib.hid htold
  have HK := Lib.hid hks
  clear htold hks
  go_wp2_with fail
  go_ret
  exact ⟨ks, v2, HK.out, rfl, HT.out.ents, HT.out.below⟩

/-- how many of the first segments are old -/
def oldN (ix : Nat) : List Sg → Nat
  | [] => 0
  | s :: r => if r = [] then 0 else if top s.recs ≤ ix then oldN ix r + 1 else 0
theorem oldN_le (ix : Nat) : ∀ (l : List Sg), oldN ix l ≤ l.length
  | [] => Nat.le_refl _
  | s :: r => by
    have := oldN_le ix r
    unfold oldN
    split
    · simp
    · split
      · simp; omega
      · simp
def dropAll (M : Files) (l : List Sg) : Files := l.foldl (fun M s => upd M (nameOf s.num) none) M
theorem dropAll_succ (M : Files) (l : List Sg) {i : Nat} (hi : i < l.length) : dropAll M (l.take (i + 1)) = upd (dropAll M (l.take i)) (nameOf l[i].num) none := by
  unfold dropAll
  rw [List.take_add_one, List.getElem?_eq_getElem hi, Option.toList_some, List.foldl_append]
  rfl
theorem dropAll_tame {M : Files} (h : Tame M) : ∀ (l : List Sg), Tame (dropAll M l) := by
  intro l
  induction l generalizing M with
  | nil => exact h
  | cons s l ih => exact ih (tame_upd h (by rw [name_len]; decide) (fun f hf => by cases hf))
theorem dropAll_other {n : Name} : ∀ (l : List Sg) {M : Files}, (∀ s ∈ l, n ≠ nameOf s.num) → (dropAll M l) n = M n
  | [], M, _ => rfl
  | s :: l, M, h => by
    show (dropAll (upd M (nameOf s.num) none) l) n = _
    rw [dropAll_other l (fun x hx => h x (by simp [hx])), upd_other _ _ (h s (by simp))]

set_option maxRecDepth 100000 in
set_option maxHeartbeats 2000000 in
theorem compact_any {w : World} {B g N : Nat} {o : Tags} {M : Files} (h : Live w B o g M N) (hb : Nat) (hw : WalAt w o hb g) (ix : Nat) :
    Calls Tryz.prog 15 #[.pointer (some ⟨hb, 0, none⟩), .int .u64 (ix : Int)] w fun r w' => ∃ ks o', NamesOf M (fun f => f.now.there) ks ∧ r = .returned (.int .i64 0) ∧ Live w' B o' g (dropAll M ((segsAt M ks).take (oldN ix (segsAt M ks)))) N ∧ Step o w o' w' := by
  have hc := hw.cell
  have HRD := Lib.hid h.read
  have HL := Lib.hid h
  have HW := Lib.hid hw
  clear h hw
  go_enter Tryz.func15, Tryz.ntmps15
  go_wp2_with fail
  refine HRD.out.mono ?_
  rintro r w2 ⟨ks, v1, v2, hks, hkN, rfl, htold⟩
  obtain ⟨segs, hsegs⟩ : ∃ segs, segs = segsAt M ks := ⟨_, rfl⟩
  have hsr := htold.segs
  change SegRow w2 w.heap.size ((segsAt M ks).map Sg.raw) v1 at hsr
  rw [← hsegs] at hsr
  obtain ⟨sa, sc, rfl, _⟩ := hsr.shape
  rw [List.length_map] at hsr ⊢
  obtain ⟨n, hn⟩ : ∃ n, n = segs.length := ⟨_, rfl⟩
  rw [← hn] at hsr ⊢
  have HN := Lib.hid hn
  have HSI := Lib.hid (show ∀ (i : Nat) (hi : i < segs.length), SegIs M segs i segs[i] from fun i hi => by
    subst hsegs
    exact seg_is (fun n => HL.out.ok n) hks hi)
  have HK := Lib.hid hks
  have HSEGS := Lib.hid hsegs
  have HSR := Lib.hid hsr
  have hls : segs.length ≤ 5000 := by
    have h1 := congrArg List.length (seg_nums M ks)
    change ((segsAt M ks).map Sg.num).length = _ at h1
    rw [← hsegs, List.length_map] at h1
    have h2 := nums_len ks
    have h3 := HL.out.few
    omega
  rw [← hn] at hls
  have HSTART := Lib.hid (show oldN ix segs = 0 + oldN ix (segs.drop 0) ∧ Live w2 B o g (dropAll M (segs.take 0)) N ∧ Step o w o w2 ∧ Kept w2 w.heap.size o w2 from ⟨by simp, HL.out.below htold.below, Step.of_below o htold.below, Kept.start fun k e => (HL.out.disk.owns k e).2⟩)
  clear hks hsegs hsr htold HRD hn
  go_wp2_with fail
  go_loopw [28] (fun v wr => ∃ (i : Nat) (oi : Tags), i ≤ n ∧ v = .int .i64 (i : Int) ∧ oldN ix segs = i + oldN ix (segs.drop i) ∧ Live wr B oi g (dropAll M (segs.take i)) N ∧ Step o w oi wr ∧ Kept w2 w.heap.size oi wr) (fun v _ => n - (intOf v).toNat)
  case atStart => exact ⟨0, o, Nat.zero_le _, rfl, HSTART.out⟩
  case round =>
    clear HSTART
    obtain ⟨i, oi, hi, rfl, hold, hli, hst, hkp⟩ := hrel
    by_cases hin : i < n
    · have hil : i < segs.length := by rw [← HN.out]; exact hin
      have hsrw := HSR.out.kept hkp
      have hll : (segs.map Sg.raw).length = segs.length := List.length_map _
      obtain ⟨sg, cap, ba, bc, hsv, j1, j2, s0, s1, s2, s3, s4, j3, j4, j5⟩ := hsrw.at_ (i := i) (by rw [hll]; exact hil)
      rw [List.getElem_map] at s0 s1 s2 s3 s4
      rw [hll, ← HN.out] at hsv
      simp only [Value.slice.injEq, true_and] at hsv
      obtain ⟨rfl, rfl⟩ := hsv
      obtain ⟨sx, hsx⟩ : ∃ sx, sx = segs[i] := ⟨_, rfl⟩
      rw [← hsx] at s0 s1 s2 s3 s4
      simp only [Sg.raw] at s0 s1 s2 s3 s4
      clear j1 j2 j3 j4 j5
      have hdr : segs.drop i = sx :: segs.drop (i + 1) := by rw [hsx]; exact List.drop_eq_getElem_cons hil
      have hsi := HSI.out i hil
      rw [← hsx] at hsi
      have hth : ((dropAll M (segs.take i)).at (nameOf sx.num)).now.there = true := by
        have h1 : (dropAll M (segs.take i)).at (nameOf sx.num) = M.at (nameOf sx.num) := by
          unfold Files.at
          rw [dropAll_other _ hsi.apart]
        rw [h1]
        exact hsi.there
      have hwi := HW.out.step hst
      obtain ⟨gd, hgd⟩ : ∃ gd : Int, gd = (sx.good : Int) := ⟨_, rfl⟩
      obtain ⟨rl, hrl⟩ : ∃ rl : Int, rl = (sx.recs.length : Int) := ⟨_, rfl⟩
      rw [← hgd] at s2
      rw [← hrl] at s3
      have hal : Below wr.heap.size wr (wr.alloc (.cells #[.int .i64 (sx.num : Int), .slice ba sx.bs.length bc, .int .i64 gd, .int .i64 rl, .int .u64 (top sx.recs : Int)] 75)) := (Below.refl _ _).alloc (Nat.le_refl _) _
      have HTH := Lib.hid hth
      have HHI := Lib.hid hsi.hi
      have HDR := Lib.hid hdr
      have HOLD := Lib.hid hold
      have HLI := Lib.hid hli
      have HST := Lib.hid hst
      have HKP := Lib.hid hkp
      have HSX := Lib.hid hsx
      have HWI := Lib.hid hwi
      have HAL := Lib.hid hal
      have hc2 := hwi.cell
      clear hsrw hsx hsi hth hwi hgd hrl hdr hold hli hst hkp hal
      have HIL := Lib.hid hil
      have HEL := Lib.hid (show oldN ix segs = i + (if segs.drop (i + 1) = [] then 0 else if top sx.recs ≤ ix then oldN ix (segs.drop (i + 1)) + 1 else 0) by rw [HOLD.out, HDR.out, oldN])
      by_cases hlast : n = i + 1
      · have HN0 := Lib.hid (show oldN ix segs = i by
          have h1 := HN.out
          rw [HEL.out, if_pos (List.drop_of_length_le (by omega))]
          rfl)
        subst hlast
        go_wp2_with fail
        go_ret
        refine ⟨ks, oi, HK.out, rfl, ?_, HST.out.trans (Step.of_below oi HAL.out)⟩
        rw [← HSEGS.out, HN0.out]
        exact HLI.out.below HAL.out
      · have hq : ((i : Int) == (n : Int) - 1) = false := by rw [beq_eq_false_iff_ne]; omega
        have hne : segs.drop (i + 1) ≠ [] := fun e0 => by
          have := congrArg List.length e0
          rw [List.length_drop] at this
          simp at this
          have h1 := HN.out
          omega
        clear hlast
        by_cases htop : top sx.recs ≤ ix
        · have hd : decide ((ix : Int) < (top sx.recs : Int)) = false := by simp; omega
          have HN1 := Lib.hid (show oldN ix segs = (i + 1) + oldN ix (segs.drop (i + 1)) by
            rw [HEL.out, if_neg hne, if_pos htop]
            omega)
          have HHELD := Lib.hid (show (wr.alloc (.cells #[.int .i64 (sx.num : Int), .slice ba sx.bs.length bc, .int .i64 gd, .int .i64 rl, .int .u64 (top sx.recs : Int)] 75)).heap[hb]? = some (.cells #[.pointer (some ⟨g, 0, none⟩)] 61 (0, 0)) ∧ (wr.alloc (.cells #[.int .i64 (sx.num : Int), .slice ba sx.bs.length bc, .int .i64 gd, .int .i64 rl, .int .u64 (top sx.recs : Int)] 75)).heap[wr.heap.size]? = some (.cells #[.int .i64 (sx.num : Int), .slice ba sx.bs.length bc, .int .i64 gd, .int .i64 rl, .int .u64 (top sx.recs : Int)] 75 (0, 0)) from ⟨(HAL.out.block hb (lt_of_block HWI.out.1)).trans HWI.out.1, heap_alloc_new _ _⟩)
          clear hne
          go_wp2_with fail
          refine wp_region_held_drew (S := fun W => W.heap[hb]? = some (.cells #[.pointer (some ⟨g, 0, none⟩)] 61 (0, 0)) ∧ W.heap[wr.heap.size]? = some (.cells #[.int .i64 (sx.num : Int), .slice ba sx.bs.length bc, .int .i64 gd, .int .i64 rl, .int .u64 (top sx.recs : Int)] 75 (0, 0))) (by kernel_rfl) HHELD.out (fun hHeld => ?_)
          refine wpAnyH_take (i := 0) (oi := ?_) (v := ?_) ?_ (by kernel_rfl) (by kernel_rfl) (by kernel_rfl) ?_ (Or.inl ⟨?_, ?_⟩) (by assumption) ?_
          rotate_left 2
          focus (simp only [List.getElem?_toArray, List.getElem?_cons_zero]; rfl)
          focus exact fun _ _ _ h => h
          focus rfl
          focus (intro W hS; (try dsimp only at hS); have q0 : W.cell? ⟨wr.heap.size, 0, none⟩ = some (.int .i64 (sx.num : Int)) := by { rw [cell_of_row _ _ 0 _ _ _ hS.2]; rfl }; have q1 : W.cell? ⟨wr.heap.size, 1, none⟩ = some (.slice ba sx.bs.length bc) := by { rw [cell_of_row _ _ 1 _ _ _ hS.2]; rfl }; have q2 : W.cell? ⟨wr.heap.size, 2, none⟩ = some (.int .i64 gd) := by { rw [cell_of_row _ _ 2 _ _ _ hS.2]; rfl }; have q3 : W.cell? ⟨wr.heap.size, 3, none⟩ = some (.int .i64 rl) := by { rw [cell_of_row _ _ 3 _ _ _ hS.2]; rfl }; have q4 : W.cell? ⟨wr.heap.size, 4, none⟩ = some (.int .u64 (top sx.recs : Int)) := by { rw [cell_of_row _ _ 4 _ _ _ hS.2]; rfl }; go_simp; (try with_reducible rfl))
          try simp only [Act.put]
          try simp only [List.setIfInBounds_toArray]
          try simp only [List.set_cons_succ]
          try simp only [List.set_cons_zero]
          refine wpAnyH_take (i := 1) (oi := ?_) (v := ?_) ?_ (by kernel_rfl) (by kernel_rfl) (by kernel_rfl) ?_ (Or.inl ⟨?_, ?_⟩) (by assumption) ?_
          rotate_left 2
          focus (simp only [List.getElem?_toArray, List.getElem?_cons_succ, List.getElem?_cons_zero]; rfl)
          focus exact fun _ _ _ h => h
          focus rfl
          focus (intro W hS; (try dsimp only at hS); go_simp; (try with_reducible rfl))
          try simp only [Act.put]
          try simp only [List.setIfInBounds_toArray]
          try simp only [List.set_cons_succ]
          try simp only [List.set_cons_zero]
          refine wpAnyH_take (i := 2) (oi := ?_) (v := ?_) ?_ (by kernel_rfl) (by kernel_rfl) (by kernel_rfl) ?_ (Or.inl ⟨?_, ?_⟩) (by assumption) ?_
          rotate_left 2
          focus (simp only [List.getElem?_toArray, List.getElem?_cons_succ, List.getElem?_cons_zero]; rfl)
          focus exact fun _ _ _ h => h
          focus rfl
          focus (intro W hS; (try dsimp only at hS); go_simp; (try with_reducible rfl))
          try simp only [Act.put]
          try simp only [List.setIfInBounds_toArray]
          try simp only [List.set_cons_succ]
          try simp only [List.set_cons_zero]
          refine wpAnyH_take (i := 3) (oi := ?_) (v := ?_) ?_ (by kernel_rfl) (by kernel_rfl) (by kernel_rfl) ?_ (Or.inl ⟨?_, ?_⟩) (by assumption) ?_
          rotate_left 2
          focus (simp only [List.getElem?_toArray, List.getElem?_cons_succ, List.getElem?_cons_zero]; rfl)
          focus exact fun _ _ _ h => h
          focus rfl
          focus (intro W hS; (try dsimp only at hS); go_simp; (try with_reducible rfl))
          try simp only [Act.put]
          try simp only [List.setIfInBounds_toArray]
          try simp only [List.set_cons_succ]
          try simp only [List.set_cons_zero]
          refine wpAnyH_take (i := 4) (oi := ?_) (v := ?_) ?_ (by kernel_rfl) (by kernel_rfl) (by kernel_rfl) ?_ (Or.inl ⟨?_, ?_⟩) (by assumption) ?_
          rotate_left 2
          focus (simp only [List.getElem?_toArray, List.getElem?_cons_succ, List.getElem?_cons_zero]; rfl)
          focus exact fun _ _ _ h => h
          focus rfl
          focus (intro W hS; (try dsimp only at hS); have q : W.cell? ⟨hb, 0, none⟩ = some (.pointer (some ⟨g, 0, none⟩)) := by { rw [cell_of_row _ _ 0 _ _ _ hS.1]; rfl }; go_simp; (try with_reducible rfl))
          try simp only [Act.put]
          try simp only [List.setIfInBounds_toArray]
          try simp only [List.set_cons_succ]
          try simp only [List.set_cons_zero]
          refine wpAnyH_ready (rs := [5]) (by kernel_rfl) (by simp) ?_
          refine AllReadyH.cons (o := ?_) ?_ (fun K hK => ?_) AllReadyH.nil
          rotate_left
          focus (simp only [List.getElem?_toArray, List.getElem?_cons_succ, List.getElem?_cons_zero]; rfl)
          rw [if_pos (by rfl)]
          go_simp
          refine (remove_seg ((HLI.out.below HAL.out).below (Below.refl _ _).drew) sx.num (.slice ba sx.bs.length bc) (.int .i64 gd) (.int .i64 rl) (.int .u64 (top sx.recs : Int)) HHI.out HTH.out).mono ?_
          rintro r w7 ⟨rfl, o7, hd7, hs7⟩
          have hs8 : Step oi wr o7 w7 := ((Step.of_below oi HAL.out).trans (Step.of_below oi (Below.refl _ _).drew)).trans hs7
          have HHELD7 := Lib.hid (show w7.heap[hb]? = _ ∧ w7.heap[wr.heap.size]? = _ from ⟨(hs7.block hb (lt_of_block HHELD.out.1) HWI.out.2).trans HHELD.out.1, (hs7.block wr.heap.size (by simp) (HLI.out.free (Nat.le_refl _))).trans HHELD.out.2⟩)
          have HL7 := Lib.hid (show Live w7 B o7 g (dropAll M (segs.take (i + 1))) N by
            rw [dropAll_succ _ _ HIL.out, ← HSX.out]
            exact HLI.out.step hs8 hd7 (tame_upd HLI.out.tame (by rw [name_len]; decide) (fun f hf => by cases hf)) HLI.out.few)
          have HS8 := Lib.hid hs8
          clear hd7 hs7 hs8
          go_wp2_with fail
          refine hK.out _ _ HHELD7.out (fun hHeld => ?_)
          clear hK K
          try simp only [Act.put]
          try simp only [List.setIfInBounds_toArray]
          try simp only [List.set_cons_succ]
          try simp only [List.set_cons_zero]
          refine wpAnyH_done (by kernel_rfl) ?_ _
          go_wp2_with fail
          go_roundw
          case rel => exact ⟨i + 1, o7, hin, by go_num, HN1.out, HL7.out, HST.out.trans HS8.out, HKP.out.step HS8.out⟩
          case measure => simp [intOf]; omega
        · have hd : decide ((ix : Int) < (top sx.recs : Int)) = true := by simp; omega
          have HN0 := Lib.hid (show oldN ix segs = i by
            rw [HEL.out, if_neg hne, if_neg htop]
            rfl)
          clear hne
          go_wp2_with fail
          go_ret
          refine ⟨ks, oi, HK.out, rfl, ?_, HST.out.trans (Step.of_below oi HAL.out)⟩
          rw [← HSEGS.out, HN0.out]
          exact HLI.out.below HAL.out
    · obtain rfl : i = n := by omega
      have HN0 := Lib.hid (show oldN ix segs = i by rw [hold, HN.out, List.drop_length]; rfl)
      have HLI := Lib.hid hli
      have HST := Lib.hid hst
      clear hold hli hst hkp
      go_wp2_with fail
      go_ret
      refine ⟨ks, oi, HK.out, rfl, ?_, HST.out⟩
      rw [← HSEGS.out, HN0.out]
      exact HLI.out

end Go.Proofs.YtmfemedcjgeheaaGreatDoor

namespace Go.Proofs.YtmfemedcjgeheaaGreatDoor
open Go.RowKit Go.Maps Go.Sort Dsk Wl

section
variable {B g N : Nat} {M : Files} {L : List (Nat × List Ent)} {E E' : List Ent} {e : Ent}

theorem next_le {c : Cur} (h : c.n ≤ 8) : c.next.num ≤ c.num + 1 ∧ c.next.n + 1 ≤ 8 := by
  unfold Cur.next
  split
  · exact ⟨Nat.le_refl _, by dsimp only; omega⟩
  · rename_i hf
    unfold Cur.fresh at hf
    simp only [Bool.or_eq_true, decide_eq_true_eq, not_or] at hf
    exact ⟨by omega, by omega⟩

theorem puts_all : ∀ (es : List Ent) {M : Files} {L : List (Nat × List Ent)} {E E' : List Ent} {N : Nat}, Whole M L E → Tame M → (∀ e ∈ es, e.ok) → chain E es = some E' → (curL L).num + es.length < 99999999 → (curL L).n ≤ 8 → N + es.length ≤ 64 →
    ∃ M2 N2, Puts B g M N (curL L) es 0 M2 N2 ∧ Whole M2 (es.foldl putL L) E' ∧ Tame M2 ∧ N2 ≤ N + es.length ∧ (curL (es.foldl putL L)).num ≤ (curL L).num + es.length ∧ (curL (es.foldl putL L)).n ≤ 8
  | [], M, L, E, E', N, hW, hT, _, hc, _, hn, _ => by
    cases hc
    exact ⟨M, N, .nil M N _, hW, hT, Nat.le_refl _, Nat.le_refl _, hn⟩
  | e :: es, M, L, E, E', N, hW, hT, hok, hc, hk, hn, hN => by
    rw [List.length_cons] at hk hN
    cases hf : Wl.follow E e with
    | none => simp [chain, hf] at hc
    | some E1 =>
      rw [chain_cons es hf] at hc
      have he := hok e (by simp)
      have hk1 : (curL L).num < 99999999 := by omega
      have hW1 := hW.put he hf hk1
      have hT1 := tame_put hT (hW.next hk1).1 e
      have hp := puts_any (B := B) (g := g) (N := N) hW hT he hk1 (by omega) (by omega)
      have hcu := curL_put L hW.pos e
      have hnx := next_le hn
      have hcnt := (cntN_le (syncM M (curL L)) (nameOf (curL L).next.num) N).2
      obtain ⟨M2, N2, h1, h2, h3, h4, h5, h6⟩ := puts_all es hW1 hT1 (fun x hx => hok x (by simp [hx])) hc (N := cntN (syncM M (curL L)) (nameOf (curL L).next.num) N) (by rw [hcu]; dsimp only; omega) (by rw [hcu]; exact hnx.2) (by omega)
      rw [hcu] at h5
      dsimp only at h5
      exact ⟨M2, N2, .step hp h1, h2, h3, by rw [List.length_cons]; omega, by rw [List.length_cons]; exact Nat.le_trans h5 (by omega), h6⟩

theorem okIx_chain : ∀ (es : List Ent) {E E' : List Ent}, chain E es = some E' → okIx (lastIx E) es = true
  | [], _, _, _ => rfl
  | e :: es, E, E', h => by
    cases hf : Wl.follow E e with
    | none => simp [chain, hf] at h
    | some E1 =>
      rw [chain_cons es hf] at h
      have h1 := okIx_chain es h
      unfold Wl.follow at hf
      split at hf
      · rename_i hfo
        cases hf
        rw [lastIx_snoc] at h1
        simp [okIx, hfo, h1]
      · cases hf
theorem refuse_chain {es : List Ent} (h : chain E es = some E') (hok : ∀ e ∈ es, e.ok) : refuse (lastIx E) es = 0 := by
  have h2 : short es = true := by
    unfold short
    rw [List.all_eq_true]
    intro e he
    simpa using (hok e he).2.2.2.1
  unfold refuse
  rw [if_pos (okIx_chain es h), if_pos h2]
theorem curOf_sg (L : List (Nat × List Ent)) : curOf (L.map sgOf) = curL L := by
  by_cases hn : L = []
  · subst hn; rfl
  · obtain ⟨L, x, rfl⟩ : ∃ L' x, L = L' ++ [x] := ⟨L.dropLast, L.getLast hn, (List.dropLast_concat_getLast hn).symm⟩
    rw [List.map_append, List.map_cons, List.map_nil, curOf_snoc, curL_snoc]
    rfl

/-- Append of entries that follow -/
theorem append_whole {w : World} {o : Tags} (h : Live w B o g M N) (hW : Whole M L E) (hb : Nat) (hw : WalAt w o hb g) (es : List Ent) (a : Option Addr) (c : Nat) (U : Nat) (hs : EntsF w o U a es) (hok : ∀ e ∈ es, e.ok) (hc : chain E es = some E') (hE : E.length ≤ 1000000000) (hk : (curL L).num + es.length < 99999999) (hn : (curL L).n ≤ 8) (hN : N + es.length ≤ 64) :
    Calls Tryz.prog 11 #[.pointer (some ⟨hb, 0, none⟩), .slice a es.length c] w fun r w' => r = .returned (.int .i64 0) ∧ ∃ o' M2 N2, Live w' B o' g M2 N2 ∧ Step o w o' w' ∧ Whole M2 (es.foldl putL L) E' ∧ N2 ≤ N + es.length ∧ (curL (es.foldl putL L)).num ≤ (curL L).num + es.length ∧ (curL (es.foldl putL L)).n ≤ 8 := by
  obtain ⟨M2, N2, h1, h2, h3, h4, h5, h6⟩ := puts_all (B := B) (g := g) es hW h.tame hok hc hk hn hN
  refine (append_puts h hb hw es a c U hs (by omega) 0 M2 N2 fun ks hks => ?_).mono ?_
  · rw [hW.read hks, curOf_sg]
    exact ⟨refuse_chain hc hok, hE, h1⟩
  · rintro r w' ⟨rfl, o', a1, a2⟩
    exact ⟨rfl, o', M2, N2, a1, a2, h2, h4, h5, h6⟩
/-- Append of entries that don't -/
theorem append_not {w : World} {o : Tags} (h : Live w B o g M N) (hW : Whole M L E) (hb : Nat) (hw : WalAt w o hb g) (es : List Ent) (a : Option Addr) (c : Nat) (U : Nat) (hs : EntsF w o U a es) (hn : es.length < 1000000000) (hE : E.length ≤ 1000000000) (hr : refuse (lastIx E) es ≠ 0) :
    Calls Tryz.prog 11 #[.pointer (some ⟨hb, 0, none⟩), .slice a es.length c] w fun r w' => r = .returned (.int .i64 (refuse (lastIx E) es)) ∧ Below w.heap.size w w' := by
  refine (append_refused h hb hw es a c U hs hn fun ks hks => ?_).mono ?_
  · rw [hW.read hks]
    exact ⟨hr, hE⟩
  · rintro r w' ⟨ks, hks, rfl, hbl⟩
    rw [hW.read hks]
    exact ⟨rfl, hbl⟩
theorem entries_whole {w : World} {o : Tags} (h : Live w B o g M N) (hW : Whole M L E) (hb : Nat) (hw : WalAt w o hb g) :
    Calls Tryz.prog 24 #[.pointer (some ⟨hb, 0, none⟩)] w fun r w' => ∃ v, r = .returned v ∧ EntRow w' w.heap.size E v ∧ Below w.heap.size w w' := by
  refine (entries_any h hb hw).mono ?_
  rintro r w' ⟨ks, v, hks, rfl, a1, a2⟩
  unfold entsAt at a1
  rw [hW.read hks] at a1
  exact ⟨v, rfl, a1, a2⟩
theorem cutAll_whole (M : Files) : ∀ (L : List (Nat × List Ent)), (∀ x ∈ L, x.2 ≠ []) → (∀ x ∈ L, ∀ e ∈ x.2, e.ok) → cutAll M (L.map sgOf) = M
  | [], _, _ => rfl
  | x :: L, h, hok => by
    have hlen : (flatE x.2).length ≠ 0 := by
      have := (flatE_len (hok x (by simp))).1
      have h1 : x.2.length ≠ 0 := fun e => h x (by simp) (List.length_eq_zero_iff.1 e)
      omega
    have h1 : cutSeg M (sgOf x) = M := by
      unfold cutSeg
      rw [if_neg (show ¬ (sgOf x).good = 0 from hlen), if_neg (show ¬ (sgOf x).good < (sgOf x).bs.length from Nat.lt_irrefl _)]
    have h2 := cutAll_whole M L (fun y hy => h y (by simp [hy])) (fun y hy => hok y (by simp [hy]))
    unfold cutAll at h2 ⊢
    rw [List.map_cons, List.foldl_cons, h1, h2]
theorem open_whole {w : World} {o : Tags} (h : Live w B o g M N) (hW : Whole M L E) :
    Calls Tryz.prog 8 #[.pointer (some ⟨g, 0, none⟩)] w fun r w' => ∃ hb o', r = .returned (.tuple #[.pointer (some ⟨hb, 0, none⟩), .int .i64 0]) ∧ w.heap.size ≤ hb ∧ WalAt w' o' hb g ∧ Live w' B o' g M N ∧ Step o w o' w' := by
  refine (open_any h).mono ?_
  rintro r w' ⟨ks, hb, o', rfl, hks, h1, h2, h3, h4⟩
  unfold openOf at h3
  rw [hW.read hks, cutAll_whole M L hW.ne hW.ok] at h3
  exact ⟨hb, o', rfl, h1, h2, h.step h4 h3 h.tame h.few, h4⟩
/-- Compact of a log of one segment -/
theorem compact_one {w : World} {o : Tags} {x : Nat × List Ent} (h : Live w B o g M N) (hW : Whole M [x] E) (hb : Nat) (hw : WalAt w o hb g) (ix : Nat) :
    Calls Tryz.prog 15 #[.pointer (some ⟨hb, 0, none⟩), .int .u64 (ix : Int)] w fun r w' => ∃ o', r = .returned (.int .i64 0) ∧ Live w' B o' g M N ∧ Step o w o' w' := by
  refine (compact_any h hb hw ix).mono ?_
  rintro r w' ⟨ks, o', hks, rfl, h1, h2⟩
  have hsg : segsAt M ks = [sgOf x] := by
    unfold segsAt
    rw [hW.read hks]
    rfl
  have ho : oldN ix [sgOf x] = 0 := by simp [oldN]
  rw [hsg, ho] at h1
  exact ⟨o', rfl, h1, h2⟩
end

end Go.Proofs.YtmfemedcjgeheaaGreatDoor

namespace Go.Proofs.YtmfemedcjgeheaaGreatDoor
open Go.RowKit Go.Maps Go.Sort Dsk Wl

theorem Tabs.up {B B' : Nat} {w : World} (h : Tabs B w) (hB : B ≤ B') : Tabs B' w := ⟨Nat.le_trans h.lo hB, h.syn, h.pow⟩

def kE : List Ent := [⟨1, 1, []⟩, ⟨2, 1, []⟩, ⟨3, 1, []⟩, ⟨2, 2, []⟩]
theorem kE_chain : chain [] kE = some [⟨1, 1, []⟩, ⟨2, 2, []⟩] := by decide
theorem kE_ok : ∀ e ∈ kE, e.ok := by
  intro e he
  simp only [kE, List.mem_cons, List.not_mem_nil, or_false] at he
  rcases he with rfl | rfl | rfl | rfl <;> exact ⟨by decide, by decide, by decide, by decide, fun x hx => by cases hx⟩
theorem kE_L : kE.foldl putL [] = [(1, kE)] := by decide
theorem k5_no : refuse (lastIx [⟨1, 1, []⟩, ⟨2, 2, []⟩]) [⟨5, 0, []⟩] = 2 := by decide

/-- entries without bodies, in a block of a call's own -/
theorem ents_row {w : World} {o : Tags} {b : Nat} {cs : Array Value} (es : List Ent) (hb : w.heap[b]? = some (.cells cs 55 (0, 0))) (ho : o b = none) (h : ∀ i (hi : i < es.length), cs[i * 3]? = some (.int .u64 es[i].ix) ∧ cs[i * 3 + 1]? = some (.int .u64 es[i].term) ∧ cs[i * 3 + 2]? = some (.slice none 0 0) ∧ es[i].body = []) :
    EntsF w o w.heap.size (some ⟨b, 0, none⟩) es := fun i hi => by
  obtain ⟨h1, h2, h3, h4⟩ := h i hi
  refine ⟨b, 0, none, 0, rfl, ho, lt_of_block hb, Nat.le_refl _, ?_, ?_, ?_, ?_, fun _ => rfl⟩
  · rw [cell_of_row _ _ _ _ _ _ hb, Nat.zero_add]; exact h1
  · rw [cell_of_row _ _ _ _ _ _ hb, Nat.zero_add]; exact h2
  · rw [cell_of_row _ _ _ _ _ _ hb, Nat.zero_add, h4]; exact h3
  · rw [h4]
    exact ⟨Reads.nil _ _, fun x hx => by cases hx⟩

set_option maxRecDepth 100000 in
set_option maxHeartbeats 4000000 in
theorem known10_any (w : World) {B0 : Nat} (hT : Tabs B0 w) (hB0 : B0 ≤ w.heap.size) : Calls Tryz.prog 6 #[] w fun e w' => e = .returned (.bool true) ∧ Below w.heap.size w w' := by
  have HN := Lib.hid (new_any w)
  have HT := Lib.hid (hT.up hB0)
  clear hT hB0
  go_enter Tryz.func6, Tryz.ntmps6
  go_wp2_with fail
  refine HN.out.mono ?_
  rintro e w1 ⟨rfl, hb1, o1, hd1, ho1⟩
  have hl1 : Live w1 w.heap.size o1 (w.heap.size + 1) (fun _ => none) 0 := ⟨HT.out.below hb1, hd1, hb1.size, fun l f hf => (by cases hf), by decide⟩
  have HOP := Lib.hid (open_whole hl1 Whole.new)
  have HL1 := Lib.hid hl1
  have HB1 := Lib.hid hb1
  clear hl1 hd1 hb1 ho1 HN HT
  go_wp2_with fail
  refine HOP.out.mono ?_
  rintro e w2 ⟨hb, o2, rfl, hge, hw2, hl2, hs2⟩
  have HB2 := Lib.hid (HB1.out.trans (hs2.below (fun k e => HL1.out.disk.owns k e) HB1.out.size))
  have HL2 := Lib.hid hl2
  have HW2 := Lib.hid hw2
  clear hl2 hw2 hs2 HOP HL1 HB1
  go_wp2_with fail
  obtain ⟨wa, hwa⟩ : ∃ wa, wa = w2.alloc (.cells #[.int .u64 1, .int .u64 1, .slice none 0 0, .int .u64 2, .int .u64 1, .slice none 0 0, .int .u64 3, .int .u64 1, .slice none 0 0, .int .u64 2, .int .u64 2, .slice none 0 0] 55) := ⟨_, rfl⟩
  rw [← hwa]
  have hba : Below w2.heap.size w2 wa := by rw [hwa]; exact (Below.refl _ _).alloc (Nat.le_refl _) _
  have hea : EntsF wa o2 wa.heap.size (some ⟨w2.heap.size, 0, none⟩) kE := by
    refine ents_row kE (cs := #[.int .u64 1, .int .u64 1, .slice none 0 0, .int .u64 2, .int .u64 1, .slice none 0 0, .int .u64 3, .int .u64 1, .slice none 0 0, .int .u64 2, .int .u64 2, .slice none 0 0]) (by rw [hwa]; exact heap_alloc_new _ _) (HL2.out.free (Nat.le_refl _)) fun i hi => ?_
    match i, hi with
    | 0, _ => exact ⟨rfl, rfl, rfl, rfl⟩
    | 1, _ => exact ⟨rfl, rfl, rfl, rfl⟩
    | 2, _ => exact ⟨rfl, rfl, rfl, rfl⟩
    | 3, _ => exact ⟨rfl, rfl, rfl, rfl⟩
  have HAP := Lib.hid (append_whole (HL2.out.below hba) Whole.new hb (HW2.out.below hba) kE _ 4 _ hea kE_ok kE_chain (by decide) (by decide) (by decide) (by decide))
  rw [kE_L, show kE.length = 4 from rfl] at HAP
  have HBA := Lib.hid hba
  clear hba hea hwa
  refine HAP.out.mono ?_
  rintro e w3 ⟨rfl, o3, M3, N3, hl3, hs3, hwh3, hn3, -, -⟩
  have hs23 := (Step.of_below o2 HBA.out).trans hs3
  have HB3 := Lib.hid (HB2.out.trans (hs23.below (fun k e => HL2.out.disk.owns k e) HB2.out.size))
  have HL3 := Lib.hid hl3
  have HW3 := Lib.hid (HW2.out.step hs23)
  have HH3 := Lib.hid hwh3
  clear hl3 hs3 hs23 hwh3 HAP HBA HB2 HL2 HW2
  go_wp2_with fail
  refine (entries_whole HL3.out HH3.out hb HW3.out).mono ?_
  rintro e w4 ⟨v4, rfl, hr4, hb4⟩
  obtain ⟨g4, cp4, a0, c0, hv4, hg4, hg4', p00, p01, p02, -, -, hcm⟩ := hr4.at_ (i := 0) (by decide)
  obtain ⟨g5, cp5, a1, c1, hv5, -, -, p10, p11, p12, -, -, -⟩ := hr4.at_ (i := 1) (by decide)
  rw [hv4] at hv5
  obtain ⟨rfl, rfl⟩ : g4 = g5 ∧ cp4 = cp5 := by simpa using hv5
  subst hv4
  clear hv5 hr4
  have HB4 := Lib.hid (HB3.out.trans (hb4.mono HB3.out.size))
  have HL4 := Lib.hid (HL3.out.below hb4)
  have HW4 := Lib.hid (HW3.out.below hb4)
  clear hb4 HB3 HL3 HW3
  have q01 : w4.cell? ⟨g4, 1, none⟩ = some (.int .u64 1) := p01
  have q10 : w4.cell? ⟨g4, 3, none⟩ = some (.int .u64 2) := p10
  have q11 : w4.cell? ⟨g4, 4, none⟩ = some (.int .u64 2) := p11
  clear p00 p01 p02 p10 p11 p12
  rw [show ([⟨1, 1, []⟩, ⟨2, 2, []⟩] : List Ent).length = 2 from rfl]
  go_wp2_with fail
  obtain ⟨wb, hwb⟩ : ∃ wb, wb = w4.alloc (.cells #[.int .u64 5, .int .u64 0, .slice none 0 0] 55) := ⟨_, rfl⟩
  rw [← hwb]
  have hbb : Below w4.heap.size w4 wb := by rw [hwb]; exact (Below.refl _ _).alloc (Nat.le_refl _) _
  have heb : EntsF wb o3 wb.heap.size (some ⟨w4.heap.size, 0, none⟩) [⟨5, 0, []⟩] := by
    refine ents_row _ (cs := #[.int .u64 5, .int .u64 0, .slice none 0 0]) (by rw [hwb]; exact heap_alloc_new _ _) (HL4.out.free (Nat.le_refl _)) fun i hi => ?_
    match i, hi with
    | 0, _ => exact ⟨rfl, rfl, rfl, rfl⟩
  have HAP := Lib.hid (append_not (HL4.out.below hbb) HH3.out hb (HW4.out.below hbb) [⟨5, 0, []⟩] _ 1 _ heb (by decide) (by decide) (by decide))
  rw [k5_no, show ([⟨5, 0, []⟩] : List Ent).length = 1 from rfl] at HAP
  have HL5 := Lib.hid (HL4.out.below hbb)
  have HW5 := Lib.hid (HW4.out.below hbb)
  have HB5 := Lib.hid (HB4.out.trans (hbb.mono HB4.out.size))
  clear hbb heb hwb HB4 HL4 HW4
  refine HAP.out.mono ?_
  rintro e w6 ⟨rfl, hb6⟩
  have HL6 := Lib.hid (HL5.out.below hb6)
  have HW6 := Lib.hid (HW5.out.below hb6)
  have HB6 := Lib.hid (HB5.out.trans (hb6.mono HB5.out.size))
  clear hb6 HAP HL5 HW5 HB5
  go_wp2_with fail
  refine (compact_one HL6.out HH3.out hb HW6.out 9).mono ?_
  rintro e w7 ⟨o7, rfl, hl7, hs7⟩
  have HB7 := Lib.hid (HB6.out.trans (hs7.below (fun k e => HL6.out.disk.owns k e) HB6.out.size))
  have HL7 := Lib.hid hl7
  have HW7 := Lib.hid (HW6.out.step hs7)
  clear hl7 hs7 HB6 HL6 HW6
  go_wp2_with fail
  refine (entries_whole HL7.out HH3.out hb HW7.out).mono ?_
  rintro e w8 ⟨v8, rfl, hr8, hb8⟩
  obtain ⟨a8, c8, rfl, -⟩ := hr8.shape
  rw [show ([⟨1, 1, []⟩, ⟨2, 2, []⟩] : List Ent).length = 2 from rfl]
  have HB8 := Lib.hid (HB7.out.trans (hb8.mono HB7.out.size))
  clear hr8 hb8 HB7 HL7 HW7
  go_wp2_with fail
  go_ret
  exact ⟨rfl, HB8.out⟩
end Go.Proofs.YtmfemedcjgeheaaGreatDoor
