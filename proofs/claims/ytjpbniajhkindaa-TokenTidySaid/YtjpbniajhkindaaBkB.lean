/- write, Open, Accept and Tidy, by their contracts. Accept, Tidy, a crash and Open, told of whatever files; the chapter's rows of layer 12 come out. -/
import Derived.Test.YtjpbniajhkindaaBkA
namespace Go.Proofs.Ytjpbniajhkindaa
open Go.RowKit Go.Maps Go.Sort Dsk Tok

section
variable {w : World} {B g N k b n : Nat} {o : Tags} {M : Files} {rs : List (Nat × Nat)} {f : Nat → Nat}

theorem TokAt.step {w' : World} {o' : Tags} {M' : Files} {rs' : List (Nat × Nat)} (h : TokAt w B g N o M rs k b f n) {N' : Nat} (hs : Step o w o' w') (hd : DiskAt w' B o' g M' N') (hN : N' ≤ 1) (hh : (M' tokN).isSome = false → N' = 0) (hf : FileIs M' (img rs')) (hfit : Fit rs') : TokAt w' B g N' o' M' rs' k b f n :=
  ⟨hd, Nat.le_trans h.hB hs.size, hN, hh, hf, hfit, h.book.same (hs.block _ h.book.lt_size h.ok) (hs.block _ h.book.tops.lt_size h.ob), hs.free _ h.book.lt_size h.ok (by simp [Value.ownBlock]), hs.free _ h.book.tops.lt_size h.ob (by simp [Value.ownBlock]), h.kb⟩

set_option maxRecDepth 100000 in
set_option maxHeartbeats 2000000 in
theorem write12_any (h : TokAt w B g N o M rs k b f n) (a : Option Addr) (c : Nat) (zs : List Int) (hr : Reads w a zs) (hna : a = none → c = 0) (hz : zs.length ≤ 1000000) :
    Calls Try.prog 16 #[.pointer (some ⟨k, 0, none⟩), .slice a zs.length c] w fun e w' => e = .returned (.int .i64 0) ∧ ∃ o', DiskAt w' B o' g (upd M tokN (some (sureF zs))) (cntN M tokN N) ∧ Step o w o' w' := by
  obtain ⟨c0, c1⟩ := h.book.cells
  have hlv := h.liv
  have hN := h.few
  have HREP := Lib.hid (replace_any g B N o M tokN a zs.length c zs w h.disk rfl hr hna (by omega) (.inr (by omega)) (by decide) (by decide) (by omega) (fun l f hf => by have := (hlv.tame l f hf).2; omega) h.hB)
  have HH := Lib.hid h
  clear h hr hna hlv
  go_enter Try.func16, Try.ntmps16
  go_wp2_with fail
  refine HREP.out.mono ?_
  rintro e w2 ⟨rfl, o2, hd2, hs2⟩
  have HSY := Lib.hid (sync_any g B (cntN M tokN N) o2 _ tokN w2 hd2 (by rw [upd_same]; rfl) (by decide) (by decide) (by have := cntN_le M tokN N; omega) (by
    rw [upd_at]
    have := HH.out.file.now.2
    simp [Fil.chg, this]))
  rw [upd_at, chg_now, upd_upd] at HSY
  have hc2 := (HH.out.book.same (hs2.block _ HH.out.book.lt_size HH.out.ok) (hs2.block _ HH.out.book.tops.lt_size HH.out.ob)).cells
  obtain ⟨d0, d1⟩ := hc2
  have HS2 := Lib.hid hs2
  clear hd2 hs2 HREP
  go_wp2_with fail
  refine HSY.out.mono ?_
  rintro e w3 ⟨rfl, o3, hd3, hs3⟩
  have HD3 := Lib.hid hd3
  have HS3 := Lib.hid hs3
  clear hd3 hs3
  go_wp2_with fail
  go_ret
  exact ⟨rfl, o3, HD3.out, HS2.out.trans HS3.out⟩

theorem accept_zero (h : TokAt w B g N o M rs k b f n) (j : Nat) :
    Calls Try.prog 8 #[.pointer (some ⟨k, 0, none⟩), .int .u64 (j : Int), .int .u64 0] w fun e w' => e = .returned (.int .i64 2) ∧ w' = w := by
  have HN := Lib.hid (isNone_no2 h.book)
  clear h
  go_enter Try.func8, Try.ntmps8
  go_wp2_with fail
  refine HN.out.mono ?_
  rintro e w1 ⟨rfl, rfl⟩
  go_wp2
  go_ret
  exact ⟨rfl, rfl⟩

theorem accept_old (h : TokAt w B g N o M rs k b f n) {j t : Nat} (hj : j < top64) (ht : 0 < t) (hold : t ≤ f j) :
    Calls Try.prog 8 #[.pointer (some ⟨k, 0, none⟩), .int .u64 (j : Int), .int .u64 (t : Int)] w fun e w' => e = .returned (.int .i64 120) ∧ w' = w := by
  have HN := Lib.hid (isNone_no2 h.book)
  have HT := Lib.hid (top_any h.book hj)
  have htz : ((t : Int) == 0) = false := by simp; omega
  have hoz : (t : Int) ≤ (f j : Int) := by omega
  clear h
  go_enter Try.func8, Try.ntmps8
  go_wp2_with fail
  refine HN.out.mono ?_
  rintro e w1 ⟨rfl, rfl⟩
  go_wp2_with fail
  refine HT.out.mono ?_
  rintro e w1 ⟨rfl, rfl⟩
  go_wp2
  go_ret
  exact ⟨rfl, rfl⟩

/-- behind an append, and a sync, the file is sure of the bytes -/
theorem file_after {zs ys : List Int} (hf : FileIs M zs) : ∃ F : Fil, ((M.at tokN).now.there = false ∧ F = (M.at tokN).chg ⟨true, ys, ys.length⟩ ∨ (M.at tokN).now.there = true ∧ F = (M.at tokN).app ys) ∧ F.now.bs.length = zs.length + ys.length ∧ F.later.length ≤ 1 ∧ settled F.now = some (sureF (zs ++ ys)) := by
  rcases hf.tok with h1 | ⟨h1, rfl⟩
  · refine ⟨_, .inr ⟨by simp [Files.at, h1, sureF, Fil.now], rfl⟩, ?_, ?_, ?_⟩
    all_goals simp [Files.at, h1, sureF, Fil.app, Fil.now, Ver.app, settled]
  · refine ⟨_, .inl ⟨by simp [Files.at, h1, Fil.now, Fil.zero, Ver.zero], rfl⟩, ?_, ?_, ?_⟩
    all_goals simp [Files.at, h1, Fil.zero, Ver.zero, Fil.chg, Fil.now, settled, sureF]

/-- disk.Append to the one file -/
theorem append12_any (h : TokAt w B g N o M rs k b f n) (hrl : rs.length ≤ 1000) (a : Option Addr) (c : Nat) (ys : List Int) (hr : Reads w a ys) (hna : a = none → c = 0) (hy : ys.length ≤ 1000) :
    Calls Try.prog 18 #[.pointer (some ⟨g, 0, none⟩), .string ⟨tokN.toArray⟩, .slice a ys.length c] w fun e w' => e = .returned (.int .i64 0) ∧ ∃ o' F, DiskAt w' B o' g (upd M tokN (some F)) (cntN M tokN N) ∧ Step o w o' w' ∧ F.later.length ≤ 1 ∧ settled F.now = some (sureF (img rs ++ ys)) := by
  have hl := img_le rs
  have hN := h.few
  have hnow := h.file.now.1
  obtain ⟨F, hF, _, hFl, hFs⟩ := file_after (ys := ys) h.file
  rcases hF with ⟨ht, rfl⟩ | ⟨ht, rfl⟩
  · refine (append_new g B N o M tokN a c ys w h.disk hr hna ht (by omega) (by decide) (by decide) (by omega) (fun l f hf => by have := (h.file.tame l f hf).2; omega) h.hB).mono ?_
    rintro e w' ⟨rfl, o', hd, hs⟩
    exact ⟨rfl, o', _, hd, hs, hFl, hFs⟩
  · refine (append_there g B N o M tokN a c ys w h.disk hr hna ht (by rw [hnow]; omega) (by decide) (by decide) (by omega) (by have := h.file.now.2; simp [this]) h.hB).mono ?_
    rintro e w' ⟨rfl, o', hd, hs⟩
    exact ⟨rfl, o', _, hd, hs, hFl, hFs⟩

set_option maxRecDepth 100000 in
set_option maxHeartbeats 4000000 in
theorem accept_new (h : TokAt w B g N o M rs k b f n) (hrl : rs.length ≤ 1000) (hn : n < 100000) {j t : Nat} (hj : j < top64) (ht : t < top64) (hnew : f j < t) :
    Calls Try.prog 8 #[.pointer (some ⟨k, 0, none⟩), .int .u64 (j : Int), .int .u64 (t : Int)] w fun e w' => e = .returned (.int .i64 0) ∧ ∃ o', TokAt w' B g (cntN M tokN N) o' (upd M tokN (some (sureF (img (rs ++ [(j, t)]))))) (rs ++ [(j, t)]) k b (note f j t) (n + 1) ∧ Eff o o' b w w' := by
  have hN := h.few
  have hcnt := h.cnt
  have HN := Lib.hid (isNone_no2 h.book)
  have HT := Lib.hid (top_any h.book hj)
  have HFR := Lib.hid (framed_any hj ht w)
  have htz : ((t : Int) == 0) = false := by simp; omega
  have hoz : ¬ ((t : Int) ≤ (f j : Int)) := by omega
  obtain ⟨c0, c1⟩ := h.book.cells
  have HH := Lib.hid h
  have hfl := frame_le (j, t)
  have hfrr : ∀ x ∈ Frame.frameOf (rb (j, t)), 0 ≤ x ∧ x ≤ 255 := Frame.frame_range (by have := rb_len (j, t); omega) (rb_range (r := (j, t)) ⟨hj, ht⟩)
  have HFRR := Lib.hid hfrr
  obtain ⟨ys, hys⟩ : ∃ ys, ys = Frame.frameOf (rb (j, t)) := ⟨_, rfl⟩
  rw [← hys] at HFR HFRR hfl
  have HYS := Lib.hid hys
  clear h hfrr hys
  go_enter Try.func8, Try.ntmps8
  go_wp2_with fail
  refine HN.out.mono ?_
  rintro e w1 ⟨rfl, rfl⟩
  go_wp2_with fail
  refine HT.out.mono ?_
  rintro e w1 ⟨rfl, rfl⟩
  go_wp2
  have HFR2 := Lib.hid (show ∀ W, W = w1.drew → Calls Try.prog 19 #[.int .u64 (j : Int), .int .u64 (t : Int)] W fun e w' => ∃ g c, e = .returned (.slice (some ⟨g, 0, none⟩) ys.length c) ∧ Row w' W.heap.size ys (.slice (some ⟨g, 0, none⟩) ys.length c) ∧ Below W.heap.size W w' from fun W _ => by
    rw [HYS.out]; exact framed_any hj ht W)
  refine wp_region_held_drew (S := fun W => W.cell? ⟨k, 0, none⟩ = some (.pointer (some ⟨g, 0, none⟩))) (by kernel_rfl) c0 (fun hHeld => ?_)
  refine wpAnyH_take (i := 0) (oi := ?_) (v := ?_) ?_ (by kernel_rfl) (by kernel_rfl) (by kernel_rfl) ?_ (Or.inl ⟨?_, ?_⟩) (by assumption) ?_
  rotate_left 2
  focus (simp only [List.getElem?_toArray, List.getElem?_cons_zero]; rfl)
  focus exact fun _ _ _ h => h
  focus rfl
  focus (intro W hS; (try dsimp only at hS); go_simp; (try with_reducible rfl))
  try simp only [Act.put]
  try simp only [List.setIfInBounds_toArray]
  try simp only [List.set_cons_succ]
  try simp only [List.set_cons_zero]
  refine wpAnyH_take (i := 1) (oi := ?_) (v := ?_) ?_ (by kernel_rfl) (by kernel_rfl) (by kernel_rfl) ?_ (Or.inl ⟨?_, ?_⟩) (by assumption) ?_
  rotate_left 2
  focus (simp only [List.getElem?_toArray, List.getElem?_cons_succ, List.getElem?_cons_zero]; rfl)
  focus exact fun _ _ _ h => h
  focus rfl
  focus (intro W hS; (try dsimp only at hS); go_simp; (try with_reducible rfl))
  try simp only [Act.put]
  try simp only [List.setIfInBounds_toArray]
  try simp only [List.set_cons_succ]
  try simp only [List.set_cons_zero]
  refine wpAnyH_take (i := 2) (oi := ?_) (v := ?_) ?_ (by kernel_rfl) (by kernel_rfl) (by kernel_rfl) ?_ (Or.inl ⟨?_, ?_⟩) (by assumption) ?_
  rotate_left 2
  focus (simp only [List.getElem?_toArray, List.getElem?_cons_succ, List.getElem?_cons_zero]; rfl)
  focus exact fun _ _ _ h => h
  focus rfl
  focus (intro W hS; (try dsimp only at hS); go_simp; (try with_reducible rfl))
  try simp only [Act.put]
  try simp only [List.setIfInBounds_toArray]
  try simp only [List.set_cons_succ]
  try simp only [List.set_cons_zero]
  refine wpAnyH_take (i := 3) (oi := ?_) (v := ?_) ?_ (by kernel_rfl) (by kernel_rfl) (by kernel_rfl) ?_ (Or.inl ⟨?_, ?_⟩) (by assumption) ?_
  rotate_left 2
  focus (simp only [List.getElem?_toArray, List.getElem?_cons_succ, List.getElem?_cons_zero]; rfl)
  focus exact fun _ _ _ h => h
  focus rfl
  focus (intro W hS; (try dsimp only at hS); go_simp; (try with_reducible rfl))
  try simp only [Act.put]
  try simp only [List.setIfInBounds_toArray]
  try simp only [List.set_cons_succ]
  try simp only [List.set_cons_zero]
  refine wpAnyH_take (i := 4) (oi := ?_) (v := ?_) ?_ (by kernel_rfl) (by kernel_rfl) (by kernel_rfl) ?_ (Or.inl ⟨?_, ?_⟩) (by assumption) ?_
  rotate_left 2
  focus (simp only [List.getElem?_toArray, List.getElem?_cons_succ, List.getElem?_cons_zero]; rfl)
  focus exact fun _ _ _ h => h
  focus rfl
  focus (intro W hS; (try dsimp only at hS); go_simp; (try with_reducible rfl))
  try simp only [Act.put]
  try simp only [List.setIfInBounds_toArray]
  try simp only [List.set_cons_succ]
  try simp only [List.set_cons_zero]
  refine wpAnyH_take (i := 5) (oi := ?_) (v := ?_) ?_ (by kernel_rfl) (by kernel_rfl) (by kernel_rfl) ?_ (Or.inl ⟨?_, ?_⟩) (by assumption) ?_
  rotate_left 2
  focus (simp only [List.getElem?_toArray, List.getElem?_cons_succ, List.getElem?_cons_zero]; rfl)
  focus exact fun _ _ _ h => h
  focus rfl
  focus (intro W hS; (try dsimp only at hS); go_simp; (try with_reducible rfl))
  try simp only [Act.put]
  try simp only [List.setIfInBounds_toArray]
  try simp only [List.set_cons_succ]
  try simp only [List.set_cons_zero]
  refine wpAnyH_ready (rs := [6]) (by kernel_rfl) (by simp) ?_
  refine AllReadyH.cons (o := ?_) ?_ (fun K hK => ?_) AllReadyH.nil
  rotate_left
  focus (simp only [List.getElem?_toArray, List.getElem?_cons_succ, List.getElem?_cons_zero]; rfl)
  rw [if_pos (by rfl)]
  go_simp
  refine (HFR2.out _ rfl).mono ?_
  rintro r w2 ⟨g2, cp, rfl, hrow2, hb2⟩
  have hb2 : Below w1.heap.size w1 w2 := (Below.refl _ _).drew.trans hb2
  have cc0 : w2.cell? ⟨k, 0, none⟩ = some (.pointer (some ⟨g, 0, none⟩)) := ((HH.out.book.below hb2).cells).1
  have HROW2 := Lib.hid hrow2
  have HB2 := Lib.hid hb2
  clear hrow2 hb2
  go_wp2_with fail
  refine hK.out _ _ cc0 (fun hHeld => ?_)
  clear hK K
  try simp only [Act.put]
  try simp only [List.setIfInBounds_toArray]
  try simp only [List.set_cons_succ]
  try simp only [List.set_cons_zero]
  refine wpAnyH_ready (rs := [7]) (by kernel_rfl) (by simp) ?_
  refine AllReadyH.cons (o := ?_) ?_ (fun K hK => ?_) AllReadyH.nil
  rotate_left
  focus (simp only [List.getElem?_toArray, List.getElem?_cons_succ, List.getElem?_cons_zero]; rfl)
  rw [if_pos (by rfl)]
  go_simp
  obtain ⟨a2, cp2, he2, hh2, hn2, hc2, hc2', _⟩ := row_src HROW2.out HFRR.out (by omega)
  obtain ⟨rfl, rfl⟩ : a2 = some ⟨g2, 0, none⟩ ∧ cp2 = cp := by cases he2; exact ⟨rfl, rfl⟩
  refine (append12_any (HH.out.below HB2.out) hrl _ _ ys hh2.reads (fun e => by cases e) (by omega)).mono ?_
  rintro r w3 ⟨rfl, o3, F, hd3, hs3, hFl, hFs⟩
  have hst := (Step.of_below o HB2.out).trans hs3
  have hbk3 := HH.out.book.same (hst.block _ HH.out.book.lt_size HH.out.ok) (hst.block _ HH.out.book.tops.lt_size HH.out.ob)
  have cc3 := hbk3.cells.1
  have HD3 := Lib.hid hd3
  have HS3 := Lib.hid hst
  have HBK3 := Lib.hid hbk3
  have HF := Lib.hid (And.intro hFl hFs)
  clear hd3 hs3 hst hbk3 hFl hFs hh2 hn2 hc2 hc2' he2
  go_wp2_with fail
  refine hK.out _ _ cc3 (fun hHeld => ?_)
  clear hK K
  try simp only [Act.put]
  try simp only [List.setIfInBounds_toArray]
  try simp only [List.set_cons_succ]
  try simp only [List.set_cons_zero]
  refine wpAnyH_take (i := 8) (oi := ?_) (v := ?_) ?_ (by kernel_rfl) (by kernel_rfl) (by kernel_rfl) ?_ (Or.inl ⟨?_, ?_⟩) (by assumption) ?_
  rotate_left 2
  focus (simp only [List.getElem?_toArray, List.getElem?_cons_succ, List.getElem?_cons_zero]; rfl)
  focus exact fun _ _ _ h => h
  focus rfl
  focus (intro W hS; (try dsimp only at hS); go_simp; (try with_reducible rfl))
  try simp only [Act.put]
  try simp only [List.setIfInBounds_toArray]
  try simp only [List.set_cons_succ]
  try simp only [List.set_cons_zero]
  refine wpAnyH_done (by kernel_rfl) ?_ _
  have HNT := Lib.hid (note_any HBK3.out (by omega) HH.out.kb hj ht)
  go_wp2_with fail
  refine HNT.out.mono ?_
  rintro e w4 ⟨rfl, hbk4, hg4⟩
  have ho4 := Only.of_grown hg4
  have hob3 : o3 b = none := HS3.out.free _ HH.out.book.tops.lt_size HH.out.ob (by simp [Value.ownBlock])
  have hd4 := HD3.out.only ho4 hob3
  obtain ⟨e0, e1⟩ := hbk4.cells
  have HSY := Lib.hid (sync_any g B (cntN M tokN N) o3 _ tokN w4 hd4 (by rw [upd_same]; rfl) (by decide) (by decide) (by have := cntN_le M tokN N; omega) (by rw [upd_at]; have := HF.out.1; omega))
  rw [upd_at, HF.out.2, upd_upd] at HSY
  have HBK4 := Lib.hid hbk4
  have HO4 := Lib.hid ho4
  clear hbk4 hg4 ho4 hd4
  go_wp2_with fail
  refine HSY.out.mono ?_
  rintro e w5 ⟨rfl, o5, hd5, hs5⟩
  have HD5 := Lib.hid hd5
  have HS5 := Lib.hid hs5
  clear hd5 hs5
  go_wp2_with fail
  go_ret
  have hk3 : o3 k = none := HS3.out.free _ HH.out.book.lt_size HH.out.ok (by simp [Value.ownBlock])
  have himg : img rs ++ ys = img (rs ++ [(j, t)]) := by rw [img_snoc, HYS.out]
  have hw4 := HS3.out.size
  have hw5 := HO4.out.size
  have hlk := HH.out.book.lt_size
  have hlb := HH.out.book.tops.lt_size
  refine ⟨rfl, o5, ?_⟩
  rw [← himg]
  refine ⟨⟨HD5.out, ?_, hcnt, (fun e => by rw [upd_same] at e; cases e), by rw [himg]; exact HH.out.file.sure, ?_, HBK4.out.same (HS5.out.block _ (by omega) hk3) (HS5.out.block _ (by omega) hob3), HS5.out.free _ (by omega) hk3 (by simp [Value.ownBlock]), HS5.out.free _ (by omega) hob3 (by simp [Value.ownBlock]), HH.out.kb⟩, ((Eff.of_step b HS3.out).trans (Eff.of_only HO4.out)).trans (Eff.of_step b HS5.out)⟩
  · have := HH.out.hB
    have := HS5.out.size
    omega
  · intro r hr
    rcases List.mem_append.1 hr with hr | hr
    · exact HH.out.fit r hr
    · simp at hr; subst hr; exact ⟨hj, ht⟩

/-- one record of each job -/
def tidied (f : Nat → Nat) (K : List Nat) : List (Nat × Nat) := K.map fun j => (j, f j)
theorem tidied_fit {f : Nat → Nat} {K : List Nat} (hf : ∀ j, f j < top64) (hb : ∀ j, ¬ j < top64 → f j = 0) (hK : JobsOf f K) : Fit (tidied f K) := by
  intro r hr
  obtain ⟨j, hj, rfl⟩ := List.mem_map.1 hr
  refine ⟨?_, hf j⟩
  have h0 := (hK.mem j).1 hj
  rcases Nat.lt_or_ge j top64 with h | h
  · exact h
  · have h1 := hb j (Nat.not_lt.2 h)
    omega
theorem jobs_nodup {f : Nat → Nat} {K : List Nat} (hK : JobsOf f K) : K.Nodup := hK.rise.imp fun h => by omega
theorem find_map (g : Nat → Nat) (i : Nat) : ∀ K : List Nat, (K.map fun j => (j, g j)).find? (fun r => r.1 == i) = if i ∈ K then some (i, g i) else none
  | [] => rfl
  | a :: K => by
    rw [List.map_cons]
    by_cases h : a = i
    · subst h; simp
    · rw [List.find?_cons_of_neg (by simpa using h), find_map g i K]
      have h' : ¬ i = a := fun e => h e.symm
      simp [h']
theorem tidied_tops {f : Nat → Nat} {K : List Nat} (hK : JobsOf f K) : tops (tidied f K) (fun _ => 0) = f := by
  funext i
  have hm : (tidied f K).map (·.1) = K := by simp [tidied, List.map_map, Function.comp_def]
  rw [tops_at _ _ (by rw [hm]; exact jobs_nodup hK) (fun r _ => Nat.zero_le _), tidied, find_map]
  by_cases h : i ∈ K
  · simp [h]
  · have := mt (hK.mem i).2 h
    simp [h]; omega

set_option maxRecDepth 100000 in
set_option maxHeartbeats 4000000 in
theorem tidy_any (h : TokAt w B g N o M rs k b f n) (hn : n ≤ 1000) :
    Calls Try.prog 9 #[.pointer (some ⟨k, 0, none⟩)] w fun e w' => e = .returned (.int .i64 0) ∧ ∃ o' K, JobsOf f K ∧ TokAt w' B g (cntN M tokN N) o' (upd M tokN (some (sureF (img (tidied f K))))) (tidied f K) k b f n ∧ Eff o o' b w w' := by
  obtain ⟨i0, hi, hz0, hz1, hz2⟩ := info_parts info5
  have hN := h.few
  have hcnt := h.cnt
  have HN := Lib.hid (isNone_no2 h.book)
  have HJ := Lib.hid (jobs_any h.book (by omega))
  have HH := Lib.hid h
  clear h
  go_enter Try.func9, Try.ntmps9
  go_wp2_with fail
  refine HN.out.mono ?_
  rintro e w1 ⟨rfl, rfl⟩
  go_wp2_with fail
  refine HJ.out.mono ?_
  rintro e w2 ⟨v, K, rfl, hK, hKl, hrow, hb2⟩
  obtain ⟨va, vc, rfl, hva⟩ := slice_shape hrow
  have hfit := tidied_fit HH.out.book.tops.lt HH.out.book.tops.big hK
  have HFIT := Lib.hid hfit
  have HB2 := Lib.hid hb2
  have HROW := Lib.hid hrow
  have HKK := Lib.hid hK
  have hw2 := hb2.size
  clear hrow hb2 hK hfit hva
  go_wp2_with fail
  go_loopw [3, 11] (fun v x wr => ∃ i : Nat, i ≤ K.length ∧ x = .int .i64 i ∧ Row wr w2.heap.size (img (tidied f (K.take i))) v ∧ Below w2.heap.size w2 wr) (fun _ x _ => K.length - (intOf x).toNat)
  case atStart => exact ⟨0, Nat.zero_le _, rfl, World.ownsRow_nil _ _ _ _, Below.refl _ _⟩
  case round =>
    obtain ⟨i, hi', rfl, hr, hb⟩ := hrel
    by_cases hlt : i < K.length
    · obtain ⟨q, hq⟩ : ∃ q, q = K[i] := ⟨_, rfl⟩
      have hqm : q ∈ K := by rw [hq]; exact List.getElem_mem hlt
      have hqt := (HFIT.out (q, f q) (List.mem_map.2 ⟨q, hqm, rfl⟩))
      have hva2 : ∃ vg, va = some ⟨vg, 0, none⟩ ∧ wr.cell? ⟨vg, i, none⟩ = some (.int .u64 (q : Int)) := by
        rcases HROW.out.2 with ⟨he, h0⟩ | ⟨vg, cap, cur, he, hB', hg', r1, r2, r3, r4⟩
        · omega
        · cases he
          refine ⟨vg, rfl, ?_⟩
          have hgl := lt_of_block hg'
          have hgw := (hb.block vg hgl).trans hg'
          rw [cell_of_row _ _ i _ _ _ hgw]
          have h1 : (cur.toList.take (K.length * 1))[i]? = (K.map fun j : Nat => Value.int .u64 (j : Int))[i]? := by rw [r4]
          rw [Nat.mul_one, List.getElem?_take_of_lt hlt] at h1
          rw [← Array.getElem?_toList, h1, List.getElem?_map, List.getElem?_eq_getElem hlt, hq]
          rfl
      obtain ⟨vg, rfl, hcell⟩ := hva2
      have hbk := (HH.out.book.below HB2.out).below hb
      have HT := Lib.hid (top_any hbk hqt.1)
      have HF := Lib.hid (framed_any hqt.1 hqt.2 wr)
      have htk : tidied f (K.take (i + 1)) = tidied f (K.take i) ++ [(q, f q)] := by
        rw [List.take_succ_eq_append_getElem hlt, ← hq]; simp [tidied]
      have hfl := frame_le (q, f q)
      have hfrr : ∀ x ∈ Frame.frameOf (rb (q, f q)), 0 ≤ x ∧ x ≤ 255 := Frame.frame_range (by have := rb_len (q, f q); omega) (rb_range (r := (q, f q)) hqt)
      have HFRR := Lib.hid hfrr
      have HTK := Lib.hid htk
      have hil := img_le (tidied f (K.take i))
      have hil2 : (tidied f (K.take i)).length ≤ 1000 := by simp [tidied]; omega
      obtain ⟨ys, hys⟩ : ∃ ys, ys = Frame.frameOf (rb (q, f q)) := ⟨_, rfl⟩
      rw [← hys] at HF HFRR hfl
      have HYS := Lib.hid hys
      have HR := Lib.hid hr
      have HB := Lib.hid hb
      obtain ⟨fq, hfq⟩ : ∃ x, x = f q := ⟨_, rfl⟩
      rw [← hfq] at HT HF hqt
      have hil3 : (img (tidied f (K.take i))).length ≤ 40000 := by omega
      obtain ⟨zs, hzs⟩ : ∃ zs, zs = img (tidied f (K.take i)) := ⟨_, rfl⟩
      rw [← hzs] at HR hil3
      have HZS := Lib.hid hzs
      clear hr hb hbk hfrr hys htk hq hqm hil hil2 hfq hzs
      go_wp2_with fail
      refine HT.out.mono ?_
      rintro e w3 ⟨rfl, rfl⟩
      go_wp2_with fail
      refine HF.out.mono ?_
      rintro e w4 ⟨fg, fc, rfl, hfr, hb4⟩
      obtain ⟨a, cp, he4, hh, hn0, hc1, hc2, _⟩ := row_src hfr HFRR.out (by omega)
      obtain ⟨rfl, rfl⟩ : a = some ⟨fg, 0, none⟩ ∧ cp = fc := by cases he4; exact ⟨rfl, rfl⟩
      have hrow4 : Row w4 w2.heap.size _ _ := HR.out.below hb4
      have hw4 : w2.heap.size ≤ w4.heap.size := Nat.le_trans HB.out.size hb4.size
      have HB4 := Lib.hid (HB.out.trans (hb4.mono HB.out.size))
      have HNW := Lib.hid (reads_news hh.reads)
      clear hfr hh hb4 he4 HT HF HB
      go_wp2_with (at_builtin; go_loud (refine wpList_append_any _ rfl _ _ 33 rfl w2.heap.size 5 i0 (.int .u8 0) 1 Try.underlying33 hi hz0 hz1 hz2 rfl _ _ _ rfl hrow4 (some ⟨fg, 0, none⟩) _ cp (ys.map (Value.int .u8)) rfl (by simp) hn0 HNW.out (ints_oneCell .u8 _) (by unfold maxLen; omega) (by omega) hw4 ?_))
      intro v' w5 hown hg5
      have hrow5 : Row w5 w2.heap.size (img (tidied f (K.take (i + 1)))) v' := by
        rw [HTK.out, img_snoc, ← HYS.out, ← HZS.out]
        unfold Row
        rw [List.length_append, List.map_append]
        exact hown
      have hb5 : Below w2.heap.size w2 w5 := HB4.out.grown hg5 hw4 (fun j e => (World.ownsRow.lt hrow4 j e).1)
      have HR5 := Lib.hid hrow5
      have HB5 := Lib.hid hb5
      clear hown hg5 hrow4 hrow5 hb5
      go_wp2
      go_roundw
      case rel => exact ⟨i + 1, by omega, by go_num, HR5.out, HB5.out⟩
      case measure => simp [intOf]; omega
    · obtain rfl : i = K.length := by omega
      rw [List.take_length] at hr
      have hil := img_le (tidied f K)
      have hil2 : (tidied f K).length ≤ 1000 := by simp [tidied]; omega
      obtain ⟨a, cp, rfl, hh, hn0, hc1, hc2, _⟩ := row_src hr (img_range HFIT.out) (by omega)
      have hh2 := (HH.out.below HB2.out).below hb
      have HW := Lib.hid (write12_any hh2 a cp (img (tidied f K)) hh.reads (fun e => (hn0 e).2) (by omega))
      have HH2 := Lib.hid hh2
      have HBL := Lib.hid hb
      clear hr hb hh hn0 hc1 hc2 hh2 hil hil2
      go_wp2_with fail
      refine HW.out.mono ?_
      rintro e w3 ⟨rfl, o3, hd3, hs3⟩
      have HS3 := Lib.hid hs3
      have HD3 := Lib.hid hd3
      clear hs3 hd3
      go_wp2_with fail
      go_ret
      exact ⟨rfl, o3, K, HKK.out, HH2.out.step HS3.out HD3.out hcnt (fun e => by rw [upd_same] at e; cases e) HH2.out.file.sure HFIT.out, ((Eff.of_below b HB2.out).trans (Eff.of_below b HBL.out)).trans (Eff.of_step b HS3.out)⟩

set_option maxRecDepth 100000 in
set_option maxHeartbeats 4000000 in
theorem open12_any (hd : DiskAt w B o g M N) (hB : B ≤ w.heap.size) (hN : N ≤ 1) (hhas : (M tokN).isSome = false → N = 0) (hf : FileIs M (img rs)) (hfit : Fit rs) (hrl : rs.length ≤ 1000) :
    Calls Try.prog 7 #[.pointer (some ⟨g, 0, none⟩)] w fun e w' => ∃ k' b', e = .returned (.tuple #[.pointer (some ⟨k', 0, none⟩), .int .i64 0]) ∧ TokAt w' B g N o M rs k' b' (tops rs fun _ => 0) rs.length ∧ Below w.heap.size w w' ∧ w.heap.size ≤ k' ∧ w.heap.size ≤ b' := by
  have hlv : Liv w B o g M N := ⟨hd, hB, hf.tame, by omega⟩
  have hmm := @run_makeMap Try.prog
  have HSY := Lib.hid (sync_empty hd)
  have hal1 : Below w.heap.size w ((w.alloc (.map #[] 0)).alloc (.cells #[.pointer (some ⟨g, 0, none⟩), .map (some w.heap.size)] 51)) := ((Below.refl _ _).alloc (Nat.le_refl _) _).alloc (by simp) _
  obtain ⟨W, hW⟩ : ∃ W, W = (w.alloc (.map #[] 0)).alloc (.cells #[.pointer (some ⟨g, 0, none⟩), .map (some w.heap.size)] 51) := ⟨_, rfl⟩
  rw [← hW] at hal1
  have hbk : BookAt W (w.heap.size + 1) g w.heap.size (fun _ => 0) 0 := by
    refine ⟨?_, (TopsAt.made w).same ?_⟩
    · rw [hW]
      have := heap_alloc_new (w.alloc (.map #[] 0)) (.cells #[.pointer (some ⟨g, 0, none⟩), .map (some w.heap.size)] 51)
      simpa using this
    · rw [hW]; exact Below.heap_alloc _ _ _ (by simp)
  have hlW := hlv.below hal1
  have HRD := Lib.hid (read_of (.pointer (some ⟨g, 0, none⟩)) (.string ⟨tokN.toArray⟩) W B o tokN (M.at tokN) (Lib.hid (file_any g B N o M tokN W hlW.disk (by decide))) (Lib.hid fun k e => (hlW.disk.owns k e).2) (hlW.at_ tokN))
  rw [hf.now.1] at HRD
  have HLV := Lib.hid hlv
  have HF := Lib.hid (And.intro hf hfit)
  have HAL := Lib.hid hal1
  have HBK := Lib.hid hbk
  have HW := Lib.hid hW
  have himl := img_le rs
  obtain ⟨bs, hbs⟩ : ∃ bs, bs = img rs := ⟨_, rfl⟩
  rw [← hbs] at HRD himl
  have HBS := Lib.hid hbs
  obtain ⟨th, hth⟩ : ∃ th, th = (M.at tokN).now.there := ⟨_, rfl⟩
  rw [← hth] at HRD
  clear hd hlv hlW hal1 hbk hW hbs hth hf hfit
  go_enter Try.func7, Try.ntmps7
  go_wp2_with fail
  refine HSY.out.mono ?_
  rintro e w1 ⟨rfl, rfl⟩
  go_wp2_with fail
  rw [← HW.out]
  refine HRD.out.mono ?_
  rintro e w2 ⟨a, c, rfl, hrow, hb2⟩
  have hrng := img_range HF.out.2
  rw [← HBS.out] at hrng
  obtain ⟨a', c', he, hh, hn0, hc1, hc2, _⟩ := row_src hrow hrng (by omega)
  obtain ⟨rfl, rfl⟩ : a' = a ∧ c' = c := by cases he; exact ⟨rfl, rfl⟩
  have hrd := hh.reads
  have hln := learn_any (HBK.out.below hb2) rs HF.out.2 hrl (by omega) (by omega) a' c' (by rw [← HBS.out]; exact hrd) (by rw [← HBS.out]; exact hc1) hc2
  rw [← HBS.out] at hln
  have HLN := Lib.hid hln
  have HB2 := Lib.hid (HAL.out.trans (hb2.mono HAL.out.size))
  obtain ⟨L, hL⟩ : ∃ L, L = bs.length := ⟨_, rfl⟩
  rw [← hL] at HLN himl ⊢
  clear hrow hb2 hrng hh hn0 hc1 hc2 hrd hln he hL HRD
  go_wp2_with fail
  refine HLN.out.mono ?_
  rintro e w3 ⟨rfl, hbk3, ho3⟩
  have HBK3 := Lib.hid hbk3
  have HO3 := Lib.hid ho3
  clear hbk3 ho3
  go_wp2_with fail
  go_ret2
  have hw2 := HB2.out.size
  have hb3 : Below w.heap.size w w3 := HB2.out.trans (HO3.out.below hw2 (Nat.le_refl _))
  have hlv3 := HLV.out.below hb3
  refine ⟨_, w.heap.size, rfl, ⟨hlv3.disk, hlv3.hB, hN, hhas, HF.out.1, HF.out.2, ?_, HLV.out.free (by omega), HLV.out.free (Nat.le_refl _), by omega⟩, hb3, by omega, Nat.le_refl _⟩
  simpa using HBK3.out

end
end Go.Proofs.Ytjpbniajhkindaa

namespace Go.Proofs.Ytjpbniajhkindaa
open Go.RowKit Go.Maps Go.Sort Dsk Tok

/-- what Accept answers; what the book tells then; the records -/
def accE (f : Nat → Nat) (j t : Nat) : Int := if t = 0 then 2 else if t ≤ f j then 120 else 0
def accF (f : Nat → Nat) (j t : Nat) : Nat → Nat := note f j t
def accR (f : Nat → Nat) (rs : List (Nat × Nat)) (j t : Nat) : List (Nat × Nat) := if f j < t then rs ++ [(j, t)] else rs
theorem accR_len (f : Nat → Nat) (rs : List (Nat × Nat)) (j t : Nat) : (accR f rs j t).length ≤ rs.length + 1 := by unfold accR; split <;> simp
theorem accR_tops {f : Nat → Nat} {rs : List (Nat × Nat)} (h : tops rs (fun _ => 0) = f) (j t : Nat) : tops (accR f rs j t) (fun _ => 0) = accF f j t := by
  unfold accR accF
  split
  · rw [tops_snoc, h]
  · rename_i h0
    rw [note_old f h0, h]

section
variable {w : World} {B g k b n : Nat} {o : Tags} {rs : List (Nat × Nat)} {f : Nat → Nat}

theorem Tk.lt (h : Tk w B g o rs k b f n) : (∀ j, f j < top64) ∧ k < w.heap.size ∧ b < w.heap.size ∧ B ≤ w.heap.size := by
  obtain ⟨M, N, h⟩ := h
  exact ⟨h.book.tops.lt, h.book.lt_size, h.book.tops.lt_size, h.hB⟩
theorem Tk.big (h : Tk w B g o rs k b f n) : ∀ j, ¬ j < top64 → f j = 0 := by
  obtain ⟨M, N, h⟩ := h
  exact h.book.tops.big
theorem Tk.isMap (h : Tk w B g o rs k b f n) : ∃ es c, w.heap[b]? = some (.map es c) := by
  obtain ⟨M, N, h⟩ := h
  exact h.book.tops.isMap
theorem Tk.owns (h : Tk w B g o rs k b f n) : ∀ i, o i ≠ none → B ≤ i ∧ i < w.heap.size := by
  obtain ⟨M, N, h⟩ := h
  exact h.disk.owns
theorem Tk.mono (h : Tk w B g o rs k b f n) {m : Nat} (hm : n ≤ m) : Tk w B g o rs k b f m := by
  obtain ⟨M, N, h⟩ := h
  exact ⟨M, N, { h with book := h.book.mono hm }⟩

theorem accept_tk (h : Tk w B g o rs k b f n) (hrl : rs.length ≤ 1000) (hn : n < 100000) {j t : Nat} (hj : j < top64) (ht : t < top64) :
    Calls Try.prog 8 #[.pointer (some ⟨k, 0, none⟩), .int .u64 (j : Int), .int .u64 (t : Int)] w fun e w' => e = .returned (.int .i64 (accE f j t)) ∧ ∃ o', Tk w' B g o' (accR f rs j t) k b (accF f j t) (n + 1) ∧ Eff o o' b w w' := by
  obtain ⟨M, N, h⟩ := h
  by_cases h0 : t = 0
  · subst h0
    refine (accept_zero h j).mono ?_
    rintro e w' ⟨rfl, rfl⟩
    refine ⟨by simp [accE], o, ?_, Eff.refl _ _ _⟩
    rw [accR, if_neg (by omega), accF, note_old f (by omega)]
    exact Tk.mono ⟨M, N, h⟩ (by omega)
  · by_cases h1 : t ≤ f j
    · refine (accept_old h hj (by omega) h1).mono ?_
      rintro e w' ⟨rfl, rfl⟩
      refine ⟨by simp [accE, h0, h1], o, ?_, Eff.refl _ _ _⟩
      rw [accR, if_neg (by omega), accF, note_old f (by omega)]
      exact Tk.mono ⟨M, N, h⟩ (by omega)
    · refine (accept_new h hrl hn hj ht (by omega)).mono ?_
      rintro e w' ⟨rfl, o', h', he⟩
      refine ⟨by simp [accE, h0, h1], o', ?_, he⟩
      rw [accR, if_pos (by omega), accF]
      exact ⟨_, _, h'⟩

theorem tidy_tk (h : Tk w B g o rs k b f n) (hn : n ≤ 1000) :
    Calls Try.prog 9 #[.pointer (some ⟨k, 0, none⟩)] w fun e w' => e = .returned (.int .i64 0) ∧ ∃ o' K, JobsOf f K ∧ Tk w' B g o' (tidied f K) k b f n ∧ Eff o o' b w w' := by
  obtain ⟨M, N, h⟩ := h
  refine (tidy_any h hn).mono ?_
  rintro e w' ⟨rfl, o', K, hK, h', he⟩
  exact ⟨rfl, o', K, hK, ⟨_, _, h'⟩, he⟩

theorem top_tk (h : Tk w B g o rs k b f n) {j : Nat} (hj : j < top64) :
    Calls Try.prog 12 #[.pointer (some ⟨k, 0, none⟩), .int .u64 (j : Int)] w fun e w' => e = .returned (.int .u64 (f j : Int)) ∧ w' = w := by
  obtain ⟨M, N, h⟩ := h
  exact top_any h.book hj
theorem jobs_tk (h : Tk w B g o rs k b f n) (hn : n ≤ 1000) :
    Calls Try.prog 11 #[.pointer (some ⟨k, 0, none⟩)] w fun e w' => ∃ v K, e = .returned v ∧ JobsOf f K ∧ w'.ownsRow w.heap.size 31 1 v K.length (K.map fun j : Nat => .int .u64 (j : Int)) ∧ Below w.heap.size w w' := by
  obtain ⟨M, N, h⟩ := h
  refine (jobs_any h.book (by omega)).mono ?_
  rintro e w' ⟨v, K, rfl, hK, _, hrow, hb⟩
  exact ⟨v, K, rfl, hK, hrow, hb⟩

/-- the disk alone -/
def Dk (w : World) (B g : Nat) (o : Tags) (rs : List (Nat × Nat)) : Prop := ∃ M N, DiskAt w B o g M N ∧ B ≤ w.heap.size ∧ N ≤ 1 ∧ ((M tokN).isSome = false → N = 0) ∧ FileIs M (img rs) ∧ Fit rs
theorem Tk.dk (h : Tk w B g o rs k b f n) : Dk w B g o rs := by
  obtain ⟨M, N, h⟩ := h
  exact ⟨M, N, h.disk, h.hB, h.few, h.has, h.file, h.fit⟩
theorem Dk.below {w' : World} (h : Dk w B g o rs) (hb : Below w.heap.size w w') : Dk w' B g o rs := by
  obtain ⟨M, N, h1, h2, h3⟩ := h
  exact ⟨M, N, h1.below hb, Nat.le_trans h2 hb.size, h3⟩

theorem crash_tk (h : Dk w B g o rs) (sa : Option Addr) (sc : Nat) (ss : List Int) (hs : Stay w o sa ss) (b : Nat) :
    Calls Try.prog 10 #[.pointer (some ⟨g, 0, none⟩), .slice sa ss.length sc] w fun e w' => e = .returned (.tuple #[]) ∧ ∃ o', Dk w' B g o' rs ∧ Eff o o' b w w' := by
  obtain ⟨M, N, h1, h2, h3, h4, h5, h6⟩ := h
  refine (crash_any g B N o M sa sc ss w h1 hs h5.tame.good (by omega)).mono ?_
  rintro e w' ⟨rfl, ks, o', hks, hd, hst⟩
  rw [h5.crashed _ hks] at hd
  exact ⟨rfl, o', ⟨M, N, hd, Nat.le_trans h2 hst.size, h3, h4, h5, h6⟩, Eff.of_step b hst⟩

theorem open_tk (h : Dk w B g o rs) (hrl : rs.length ≤ 1000) :
    Calls Try.prog 7 #[.pointer (some ⟨g, 0, none⟩)] w fun e w' => ∃ k' b', e = .returned (.tuple #[.pointer (some ⟨k', 0, none⟩), .int .i64 0]) ∧ Tk w' B g o rs k' b' (tops rs fun _ => 0) rs.length ∧ Below w.heap.size w w' ∧ w.heap.size ≤ k' ∧ w.heap.size ≤ b' := by
  obtain ⟨M, N, h1, h2, h3, h4, h5, h6⟩ := h
  refine (open12_any h1 h2 h3 h4 h5 h6 hrl).mono ?_
  rintro e w' ⟨k', b', rfl, ht, hb, hk, hb'⟩
  exact ⟨k', b', rfl, ⟨_, _, ht⟩, hb, hk, hb'⟩

theorem new_tk (w : World) :
    Calls Try.prog 6 #[] w fun e w' => e = .returned (.pointer (some ⟨w.heap.size + 1, 0, none⟩)) ∧ Below w.heap.size w w' ∧ ∃ o, Dk w' w.heap.size (w.heap.size + 1) o [] := by
  refine (new_any w).mono ?_
  rintro e w' ⟨rfl, hb, o, hd, _⟩
  exact ⟨rfl, hb, o, _, 0, hd, hb.size, by omega, fun _ => rfl, FileIs.none, fun r hr => by cases hr⟩

theorem stay_nil (w : World) (o : Tags) : Stay w o none [] := ⟨fun i hi => by simp at hi, fun x hx => by cases hx⟩
end

set_option maxRecDepth 100000 in
set_option maxHeartbeats 4000000 in
theorem known12_any (w : World) : Calls Try.prog 5 #[] w fun e w' => e = .returned (.bool true) ∧ Below w.heap.size w w' := by
  have HN := Lib.hid (new_tk w)
  go_enter Try.func5, Try.ntmps5
  go_wp2_with fail
  refine HN.out.mono ?_
  rintro e w1 ⟨rfl, hb1, o1, hd1⟩
  have HO := Lib.hid (open_tk hd1 (by simp))
  have HB1 := Lib.hid hb1
  clear hb1 hd1 HN
  go_wp2_with fail
  refine HO.out.mono ?_
  rintro e w2 ⟨k, b, rfl, ht2, hb2, hk, hbb⟩
  have HB2 := Lib.hid (HB1.out.trans (hb2.mono HB1.out.size))
  have hb12 := HB1.out.size
  clear hb2 HO
  have hbb : w.heap.size ≤ b := by omega
  have ha := accept_tk ht2 (by decide) (by decide) (j := 1) (t := 5) (by decide) (by decide)
  rw [show accE (tops [] fun _ => 0) 1 5 = 0 from by decide] at ha
  change Calls _ _ #[_, .int .u64 1, .int .u64 5] _ _ at ha
  have HA := Lib.hid ha
  have HT := Lib.hid ht2
  clear ha ht2
  go_wp2_with fail
  refine HA.out.mono ?_
  rintro e w3 ⟨rfl, o3, ht3, he⟩
  have HB3 := Lib.hid (HB2.out.trans (he.below HB2.out.size hbb (fun i hi => by
    cases h : o1 i with
    | none => rfl
    | some x => have := (HT.out.owns i (by rw [h]; simp)).1; omega)))
  clear he HA HT
  have ha := accept_tk ht3 (by decide) (by decide) (j := 1) (t := 5) (by decide) (by decide)
  rw [show accE (accF (tops [] fun _ => 0) 1 5) 1 5 = 120 from by decide] at ha
  change Calls _ _ #[_, .int .u64 1, .int .u64 5] _ _ at ha
  have HA := Lib.hid ha
  have HT := Lib.hid ht3
  clear ha ht3
  go_wp2_with fail
  refine HA.out.mono ?_
  rintro e w4 ⟨rfl, o4, ht4, he⟩
  have HB4 := Lib.hid (HB3.out.trans (he.below HB3.out.size hbb (fun i hi => by
    cases h : o3 i with
    | none => rfl
    | some x => have := (HT.out.owns i (by rw [h]; simp)).1; omega)))
  clear he HA HT
  have ha := accept_tk ht4 (by decide) (by decide) (j := 1) (t := 4) (by decide) (by decide)
  rw [show accE (accF (accF (tops [] fun _ => 0) 1 5) 1 5) 1 4 = 120 from by decide] at ha
  change Calls _ _ #[_, .int .u64 1, .int .u64 4] _ _ at ha
  have HA := Lib.hid ha
  have HT := Lib.hid ht4
  clear ha ht4
  go_wp2_with fail
  refine HA.out.mono ?_
  rintro e w5 ⟨rfl, o5, ht5, he⟩
  have HB5 := Lib.hid (HB4.out.trans (he.below HB4.out.size hbb (fun i hi => by
    cases h : o4 i with
    | none => rfl
    | some x => have := (HT.out.owns i (by rw [h]; simp)).1; omega)))
  clear he HA HT
  have ha := accept_tk ht5 (by decide) (by decide) (j := 2) (t := 4) (by decide) (by decide)
  rw [show accE (accF (accF (accF (tops [] fun _ => 0) 1 5) 1 5) 1 4) 2 4 = 0 from by decide] at ha
  change Calls _ _ #[_, .int .u64 2, .int .u64 4] _ _ at ha
  have HA := Lib.hid ha
  have HT := Lib.hid ht5
  clear ha ht5
  go_wp2_with fail
  refine HA.out.mono ?_
  rintro e w6 ⟨rfl, o6, ht6, he⟩
  have HB6 := Lib.hid (HB5.out.trans (he.below HB5.out.size hbb (fun i hi => by
    cases h : o5 i with
    | none => rfl
    | some x => have := (HT.out.owns i (by rw [h]; simp)).1; omega)))
  clear he HA HT
  have hp := top_tk ht6 (j := 1) (by decide)
  rw [show ((accF (accF (accF (accF (tops [] fun _ => 0) 1 5) 1 5) 1 4) 2 4) 1) = 5 from by decide] at hp
  change Calls _ _ #[_, .int .u64 1] _ (fun e w' => e = .returned (.int .u64 5) ∧ _) at hp
  have HP := Lib.hid hp
  clear hp
  go_wp2_with fail
  refine HP.out.mono ?_
  rintro e w9 ⟨rfl, rfl⟩
  clear HP
  have hp := top_tk ht6 (j := 3) (by decide)
  rw [show ((accF (accF (accF (accF (tops [] fun _ => 0) 1 5) 1 5) 1 4) 2 4) 3) = 0 from by decide] at hp
  change Calls _ _ #[_, .int .u64 3] _ (fun e w' => e = .returned (.int .u64 0) ∧ _) at hp
  have HP := Lib.hid hp
  clear hp
  go_wp2_with fail
  refine HP.out.mono ?_
  rintro e w9 ⟨rfl, rfl⟩
  clear HP
  have hc := crash_tk ht6.dk none 0 [] (stay_nil _ _) b
  change Calls _ _ #[_, .slice none 0 0] _ _ at hc
  have HC := Lib.hid hc
  have HT := Lib.hid ht6
  clear hc ht6
  go_wp2_with fail
  refine HC.out.mono ?_
  rintro e w7 ⟨rfl, o7, hd7, he⟩
  have HB7 := Lib.hid (HB6.out.trans (he.below HB6.out.size hbb (fun i hi => by
    cases h : o6 i with
    | none => rfl
    | some x => have := (HT.out.owns i (by rw [h]; simp)).1; omega)))
  have HO := Lib.hid (open_tk hd7 (by decide))
  clear he HC HT hd7
  go_wp2_with fail
  refine HO.out.mono ?_
  rintro e w8 ⟨k8, b8, rfl, ht8, hb8, hk8, hbb8⟩
  have HB8 := Lib.hid (HB7.out.trans (hb8.mono HB7.out.size))
  have hb78 := HB7.out.size
  clear hb8 HO
  have hbb8 : w.heap.size ≤ b8 := by omega
  have ha := accept_tk ht8 (by decide) (by decide) (j := 1) (t := 5) (by decide) (by decide)
  rw [show accE (tops (accR (accF (accF (accF (tops [] fun _ => 0) 1 5) 1 5) 1 4) (accR (accF (accF (tops [] fun _ => 0) 1 5) 1 5) (accR (accF (tops [] fun _ => 0) 1 5) (accR (tops [] fun _ => 0) ([]) 1 5) 1 5) 1 4) 2 4) fun _ => 0) 1 5 = 120 from by decide] at ha
  change Calls _ _ #[_, .int .u64 1, .int .u64 5] _ _ at ha
  have HA := Lib.hid ha
  have HT := Lib.hid ht8
  clear ha ht8
  go_wp2_with fail
  refine HA.out.mono ?_
  rintro e w9 ⟨rfl, o9, ht9, he⟩
  have HB9 := Lib.hid (HB8.out.trans (he.below HB8.out.size hbb8 (fun i hi => by
    cases h : o7 i with
    | none => rfl
    | some x => have := (HT.out.owns i (by rw [h]; simp)).1; omega)))
  clear he HA HT
  have ha := accept_tk ht9 (by decide) (by decide) (j := 1) (t := 6) (by decide) (by decide)
  rw [show accE (accF (tops (accR (accF (accF (accF (tops [] fun _ => 0) 1 5) 1 5) 1 4) (accR (accF (accF (tops [] fun _ => 0) 1 5) 1 5) (accR (accF (tops [] fun _ => 0) 1 5) (accR (tops [] fun _ => 0) ([]) 1 5) 1 5) 1 4) 2 4) fun _ => 0) 1 5) 1 6 = 0 from by decide] at ha
  change Calls _ _ #[_, .int .u64 1, .int .u64 6] _ _ at ha
  have HA := Lib.hid ha
  have HT := Lib.hid ht9
  clear ha ht9
  go_wp2_with fail
  refine HA.out.mono ?_
  rintro e w10 ⟨rfl, o10, ht10, he⟩
  have HB10 := Lib.hid (HB9.out.trans (he.below HB9.out.size hbb8 (fun i hi => by
    cases h : o9 i with
    | none => rfl
    | some x => have := (HT.out.owns i (by rw [h]; simp)).1; omega)))
  clear he HA HT
  go_wp2_with fail
  go_ret
  exact ⟨rfl, HB10.out⟩

end Go.Proofs.Ytjpbniajhkindaa
