/- The law's walk. -/
import Derived.Test.YtkhajpefnkialaaOnceD
import Derived.Test.YtkhajpefnkialaaOnceE
import Derived.Deep.RegionHeld
namespace Go.Proofs.Ytkhajpefnkialaa.Job
open Go.RowKit

/-- append in a region, whose run is known -/
theorem wp_append_runR {P : Program} {o : Oper} {a : Act} {w w' : World} {v v' x : Value} {s y : Operand} {t : TypeId} {K : Act → World → Prop} {Q : Exit → Act → World → Prop}
    (ho : o.op = .call { callee := .builtin .append, args := #[s, y], argTypes := #[t, t] }) (hs : a.eval s = v) (hx : a.eval y = x) (hr : (Builtin.append_ #[t, t] o.type #[v, x]).run P w = .ok v' w') (hk : K (a.put o.dst v') w') : o.wp P a w K Q := by
  unfold Oper.wp execOp
  simp only [ho, resolve, invoke, builtin, Sem.run_bind, Sem.run_pure, Result.andThen_ok, List.map_toArray, List.map_cons, List.map_nil, hs, hx, hr]
  exact hk
set_option maxRecDepth 100000 in
set_option maxHeartbeats 16000000 in
theorem once_law {w : World} {l : Lt} (hl : LtF w l) (h63 : ∀ x ∈ l.cs, x ≤ 9223372036854775807) :
    Calls Try.prog 3 #[l.val] w fun e w' => e = .returned (.bool true) ∧ Below w.heap.size w w' := by
  obtain ⟨B, hB⟩ : ∃ B, B = w.heap.size := ⟨_, rfl⟩
  obtain ⟨wa, hwa⟩ : ∃ W, W = w.alloc (.cells l.cells 24) := ⟨_, rfl⟩
  have HBX := Lib.hid (show wa.heap[B]? = some (lobj l) by rw [hwa, hB]; exact heap_alloc_new w _)
  have HBA := Lib.hid (show Below w.heap.size w wa by rw [hwa]; exact (Below.refl _ _).alloc (Nat.le_refl _) _)
  have HKN := Lib.hid (known_any wa)
  have HLF := Lib.hid hl
  have H63 := Lib.hid h63
  have HBB := Lib.hid hB
  have HMA := Lib.hid (fun W (hW : Below w.heap.size w W) => may_any (hl.below hW))
  have HWA := Lib.hid (show wa = w.alloc (.cells (lcells l.pol l.gra l.now l.da l.ds.length l.dc l.ca l.cs.length l.cc l.room) 24) from hwa)
  clear hl h63 hB hwa
  unfold Lt.val Lt.cells at *
  unfold lcells at *
  by_cases h1 : 70 < l.ds.length
  · have d1 : decide ((70 : Int) < (l.ds.length : Int)) = true := decide_eq_true (by omega)
    clear h1
    go_enter Try.func3, Try.ntmps3
    go_wp2_with fail
    rw [← HWA.out]
    refine HKN.out.mono ?_
    rintro e w1 ⟨rfl, hb1⟩
    obtain ⟨⟨c0, c1, c2⟩, c3, c4, c5⟩ := lobj_cells (l := l) ((hb1.block B (lt_of_block HBX.out)).trans HBX.out)
    rw [HBB.out] at c0 c1 c2 c3 c4 c5
    have HB1 := Lib.hid (HBA.out.trans (hb1.mono HBA.out.size))
    clear hb1 HBX HKN
    go_wp2_with fail
    go_ret
    exact ⟨rfl, HB1.out⟩
  have d1 : decide ((70 : Int) < (l.ds.length : Int)) = false := decide_eq_false (by omega)
  by_cases h2 : 70 < l.cs.length
  · have d2 : decide ((70 : Int) < (l.cs.length : Int)) = true := decide_eq_true (by omega)
    clear h1 h2
    go_enter Try.func3, Try.ntmps3
    go_wp2_with fail
    rw [← HWA.out]
    refine HKN.out.mono ?_
    rintro e w1 ⟨rfl, hb1⟩
    obtain ⟨⟨c0, c1, c2⟩, c3, c4, c5⟩ := lobj_cells (l := l) ((hb1.block B (lt_of_block HBX.out)).trans HBX.out)
    rw [HBB.out] at c0 c1 c2 c3 c4 c5
    have HB1 := Lib.hid (HBA.out.trans (hb1.mono HBA.out.size))
    clear hb1 HBX HKN
    go_wp2_with fail
    go_ret
    exact ⟨rfl, HB1.out⟩
  have d2 : decide ((70 : Int) < (l.cs.length : Int)) = false := decide_eq_false (by omega)
  clear h1 h2
  go_enter Try.func3, Try.ntmps3
  go_wp2_with fail
  rw [← HWA.out, ← HBB.out]
  refine HKN.out.mono ?_
  rintro e w1 ⟨rfl, hb1⟩
  have HBX1 := Lib.hid ((hb1.block B (lt_of_block HBX.out)).trans HBX.out)
  obtain ⟨⟨c0, c1, c2⟩, c3, c4, c5⟩ := lobj_cells (l := l) HBX1.out
  have HB1 := Lib.hid (HBA.out.trans (hb1.mono HBA.out.size))
  have HMA1 := Lib.hid (HMA.out w1 HB1.out)
  clear hb1 HBX HKN HWA HMA
  go_wp2_with fail
  refine HMA1.out.mono ?_
  rintro e w2 ⟨rfl, hb2⟩
  have HBX2 := Lib.hid ((hb2.block B (lt_of_block HBX1.out)).trans HBX1.out)
  have HB2 := Lib.hid (HB1.out.trans (hb2.mono HB1.out.size))
  obtain ⟨⟨b0, b1, b2⟩, b3, b4, b5⟩ := lobj_cells (l := l) HBX2.out
  clear hb2 HBX1 HMA1 c0 c1 c2 c3 c4 c5 d1 d2 HB1
  cases hmb : l.may with
  | false =>
    clear hmb
    go_wp2_with fail
    go_ret
    exact ⟨rfl, HB2.out⟩
  | true =>
  have hm : l.May := Lt.may_iff.1 hmb
  clear hmb
  have HJ := Lib.hid (judge_yes (HLF.out.below HB2.out) hm H63.out)
  have HM := Lib.hid hm
  have hlen := Lt.both_len hm
  have hroom := Lt.dues_room hm
  unfold Lt.val Lt.cells lcells at HJ
  clear hm
  go_wp2_with fail
  refine HJ.out.mono ?_
  rintro e w3 ⟨a, b, ca, cb, rfl, hsd, hss, hfd, -, hb3⟩
  have HBX3 := Lib.hid ((hb3.block B (lt_of_block HBX2.out)).trans HBX2.out)
  have HB3 := Lib.hid (HB2.out.trans (hb3.mono HB2.out.size))
  obtain ⟨⟨c0, c1, c2⟩, c3, c4, c5⟩ := lobj_cells (l := l) HBX3.out
  have HOFF := Lib.hid (show ∀ x, a = some x → x.block ≠ B from fun x e => by have := hfd x e; have := lt_of_block HBX2.out; omega)
  have HSD := Lib.hid hsd
  have HSS := Lib.hid hss
  obtain ⟨n, hn⟩ : ∃ n, n = l.ds.length + l.cs.length := ⟨_, rfl⟩
  have hn2 : (l.ds.length : Int) + (l.cs.length : Int) = (n : Int) := by omega
  have hn128 : n ≤ 128 := by have := HM.out.ds; have := HM.out.come; omega
  rw [← hn] at hlen
  have hl2 : (l.dues.length : Int) + (l.skips.length : Int) = (n : Int) := by omega
  have hl3 : decide (l.room < (l.dues.length : Int)) = false := decide_eq_false (by omega)
  have hl4 : ((n : Int) != (n : Int)) = false := by simp
  have hl5 : (l.dues.length : Int) ≤ 128 := by omega
  have hl6 : (l.skips.length : Int) ≤ 128 := by omega
  have hl7 : (l.ds.length : Int) ≤ 64 := by have := HM.out.ds; omega
  have hl8 : (l.cs.length : Int) ≤ 64 := by have := HM.out.come; omega
  have HN := Lib.hid hn
  have HLEN := Lib.hid hlen
  clear hb3 HJ HBX2 HB2 b0 b1 b2 b3 b4 b5 hfd hsd hss hroom hn hlen
  go_wp2_with fail
  obtain ⟨u, hu⟩ : ∃ u, u = w3.drew := ⟨_, rfl⟩
  have HSBu := Lib.hid (show u.heap[B]? = some (lobj l) by rw [hu]; exact HBX3.out)
  have hb3u : Below w3.heap.size w3 u := by rw [hu]; exact (Below.refl _ _).drew
  have HBu := Lib.hid (HB3.out.trans (hb3u.mono HB3.out.size))
  have hbE : Below u.heap.size u (u.alloc (.cells #[] 2)) := (Below.refl _ _).alloc (Nat.le_refl _) _
  have hoE : (u.alloc (.cells #[] 2)).ownsRow u.heap.size 2 1 (.slice (some ⟨u.heap.size, 0, none⟩) 0 0) 0 [] := World.ownsRow_lit u #[] 0 (Nat.le_refl _) (Nat.zero_le _) rfl
  have hlu := HLF.out.below HBu.out
  obtain ⟨v1, ua, hrun1, ho1, hg1, -⟩ := run_app (P := Try.prog) (t := 22) (by kernel_rfl) infoI64 rfl (by decide) hoE hbE.size (hlu.due.read.below hbE) (by rw [List.length_map]) hlu.due.none (one_i _) (by have := HM.out.ds; show 0 + l.ds.length ≤ _; omega)
  have hb1 : Below u.heap.size u ua := hbE.grown hg1 hbE.size (fun k e => (World.ownsRow.lt hoE k e).1)
  obtain ⟨v2, ub, hrun2, ho2, hg2, -⟩ := run_app (P := Try.prog) (t := 22) (by kernel_rfl) infoI64 rfl (by decide) ho1 hb1.size (hlu.come.read.below hb1) (by rw [List.length_map]) hlu.come.none (one_i _) (by have := HM.out.ds; have := HM.out.come; show 0 + l.ds.length + l.cs.length ≤ _; omega)
  have hb2 : Below u.heap.size u ub := hb1.grown hg2 hb1.size (fun k e => (World.ownsRow.lt ho1 k e).1)
  have ho3 : ub.ownsRow u.heap.size 2 1 v2 n (l.all.map iv) := by
    have e1 : 0 + l.due.xs.length + l.come.xs.length = n := by rw [HN.out, Nat.zero_add]; rfl
    have e2 : [] ++ l.due.xs.map iv ++ l.come.xs.map iv = l.all.map iv := by rw [List.nil_append, ← List.map_append]; rfl
    rw [← e1, ← e2]
    exact ho2
  obtain ⟨g, cg, rfl, -, -, -, hvg, -⟩ := own_shape ho3
  have hlt3 := lt_of_block HSBu.out
  have HOW := Lib.hid (show OnceW w ub B l a ca b cb g from ⟨HBu.out.trans (hb2.mono HBu.out.size), (hb2.block B hlt3).trans HSBu.out, by rw [HBB.out]; exact Nat.le_refl _, HSD.out.below (hb3u.trans (hb2.mono hb3u.size)), HSS.out.below (hb3u.trans (hb2.mono hb3u.size)), hvg, HOFF.out⟩)
  have HSB0 := Lib.hid ((hbE.block B hlt3).trans HSBu.out)
  have HSB1 := Lib.hid ((hb1.block B hlt3).trans HSBu.out)
  have HSB2 := Lib.hid ((hb2.block B hlt3).trans HSBu.out)
  have HRUN1 := Lib.hid hrun1
  have HRUN2 := Lib.hid hrun2
  clear hb3u hbE hoE hlu hrun1 ho1 hg1 hb1 hrun2 ho2 hg2 hb2 ho3 hvg hlt3 c0 c1 c2 c3 c4 c5 hn2 hl2 hl4
  refine wp_region_held_drew (S := fun W => W.heap[B]? = some (lobj l)) (by kernel_rfl) (by rw [← hu]; exact HSBu.out) (fun hHeld => ?_)
  rw [← hu] at hHeld ⊢
  clear hu
  refine wpAnyH_take (i := 1) (oi := ?_) (v := ?_) ?_ (by kernel_rfl) (by kernel_rfl) (by kernel_rfl) ?_ (Or.inl ⟨?_, ?_⟩) (by assumption) ?_
  rotate_left 2
  focus (simp only [List.getElem?_toArray, List.getElem?_cons_succ, List.getElem?_cons_zero]; rfl)
  focus exact fun _ _ _ h => h
  focus rfl
  focus (intro W hS; (try dsimp only at hS); obtain ⟨⟨k0, k1, k2⟩, k3, k4, k5⟩ := lobj_cells hS; go_simp; (try with_reducible rfl))
  try simp only [Act.put]
  try simp only [List.setIfInBounds_toArray]
  try simp only [List.set_cons_succ]
  try simp only [List.set_cons_zero]
  refine wpAnyH_take (i := 2) (oi := ?_) (v := ?_) ?_ (by kernel_rfl) (by kernel_rfl) (by kernel_rfl) ?_ (Or.inl ⟨?_, ?_⟩) (by assumption) ?_
  rotate_left 2
  focus (simp only [List.getElem?_toArray, List.getElem?_cons_succ, List.getElem?_cons_zero]; rfl)
  focus exact fun _ _ _ h => h
  focus rfl
  focus (intro W hS; (try dsimp only at hS); obtain ⟨⟨k0, k1, k2⟩, k3, k4, k5⟩ := lobj_cells hS; go_simp; (try with_reducible rfl))
  try simp only [Act.put]
  try simp only [List.setIfInBounds_toArray]
  try simp only [List.set_cons_succ]
  try simp only [List.set_cons_zero]
  refine wpAnyH_take (i := 4) (oi := ?_) (v := ?_) ?_ (by kernel_rfl) (by kernel_rfl) (by kernel_rfl) ?_ (Or.inl ⟨?_, ?_⟩) (by assumption) ?_
  rotate_left 2
  focus (simp only [List.getElem?_toArray, List.getElem?_cons_succ, List.getElem?_cons_zero]; rfl)
  focus exact fun _ _ _ h => h
  focus rfl
  focus (intro W hS; (try dsimp only at hS); obtain ⟨⟨k0, k1, k2⟩, k3, k4, k5⟩ := lobj_cells hS; go_simp; (try with_reducible rfl))
  try simp only [Act.put]
  try simp only [List.setIfInBounds_toArray]
  try simp only [List.set_cons_succ]
  try simp only [List.set_cons_zero]
  refine wpAnyH_take (i := 5) (oi := ?_) (v := ?_) ?_ (by kernel_rfl) (by kernel_rfl) (by kernel_rfl) ?_ (Or.inl ⟨?_, ?_⟩) (by assumption) ?_
  rotate_left 2
  focus (simp only [List.getElem?_toArray, List.getElem?_cons_succ, List.getElem?_cons_zero]; rfl)
  focus exact fun _ _ _ h => h
  focus rfl
  focus (intro W hS; (try dsimp only at hS); obtain ⟨⟨k0, k1, k2⟩, k3, k4, k5⟩ := lobj_cells hS; go_simp; (try with_reducible rfl))
  try simp only [Act.put]
  try simp only [List.setIfInBounds_toArray]
  try simp only [List.set_cons_succ]
  try simp only [List.set_cons_zero]
  refine wpAnyH_ready (rs := [0]) (by kernel_rfl) (by simp) ?_
  refine AllReadyH.cons (o := ?_) ?_ (fun K hK => ?_) AllReadyH.nil
  rotate_left
  focus (simp only [List.getElem?_toArray, List.getElem?_cons_zero]; rfl)
  rw [if_pos (by rfl)]
  go_simp
  have hs0 := HSB0.out
  refine hK.out _ _ hs0 (fun hHeld => ?_)
  clear hK K
  try simp only [Act.put]
  try simp only [List.setIfInBounds_toArray]
  try simp only [List.set_cons_succ]
  try simp only [List.set_cons_zero]
  refine wpAnyH_ready (rs := [3]) (by kernel_rfl) (by simp) ?_
  refine AllReadyH.cons (o := ?_) ?_ (fun K hK => ?_) AllReadyH.nil
  rotate_left
  focus (simp only [List.getElem?_toArray, List.getElem?_cons_succ, List.getElem?_cons_zero]; rfl)
  rw [if_pos (by rfl)]
  refine wp_append_runR rfl rfl rfl HRUN1.out ?_
  have hs1 := HSB1.out
  refine hK.out _ _ hs1 (fun hHeld => ?_)
  clear hK K
  try simp only [Act.put]
  try simp only [List.setIfInBounds_toArray]
  try simp only [List.set_cons_succ]
  try simp only [List.set_cons_zero]
  refine wpAnyH_ready (rs := [6]) (by kernel_rfl) (by simp) ?_
  refine AllReadyH.cons (o := ?_) ?_ (fun K hK => ?_) AllReadyH.nil
  rotate_left
  focus (simp only [List.getElem?_toArray, List.getElem?_cons_succ, List.getElem?_cons_zero]; rfl)
  rw [if_pos (by rfl)]
  refine wp_append_runR rfl rfl rfl HRUN2.out ?_
  have hs2 := HSB2.out
  refine hK.out _ _ hs2 (fun hHeld => ?_)
  clear hK K
  try simp only [Act.put]
  try simp only [List.setIfInBounds_toArray]
  try simp only [List.set_cons_succ]
  try simp only [List.set_cons_zero]
  refine wpAnyH_take (i := 7) (oi := ?_) (v := ?_) ?_ (by kernel_rfl) (by kernel_rfl) (by kernel_rfl) ?_ (Or.inl ⟨?_, ?_⟩) (by assumption) ?_
  rotate_left 2
  focus (simp only [List.getElem?_toArray, List.getElem?_cons_succ, List.getElem?_cons_zero]; rfl)
  focus exact fun _ _ _ h => h
  focus rfl
  focus (intro W hS; (try dsimp only at hS); go_simp; (try with_reducible rfl))
  try simp only [Act.put]
  try simp only [List.setIfInBounds_toArray]
  try simp only [List.set_cons_succ]
  try simp only [List.set_cons_zero]
  refine wpAnyH_done (by kernel_rfl) ?_ _
  clear HSB0 HSB1 HSB2 HRUN1 HRUN2 HSBu HBu HLF HBX3 HB3
  have hsd1 := Lt.dues_len HM.out
  have HL := Lib.hid (show l.dues.length ≤ 128 ∧ l.skips.length ≤ 128 ∧ l.dues.length + l.skips.length = n from by have := HLEN.out; omega)
  have HN128 := Lib.hid hn128
  clear hsd1 hn128 hl3 hl5 hl6 hl7 hl8
  go_wp2_with fail
  go_loopw [8, 9, 10] (fun v8 v9 v10 wr => ∃ (i k j : Nat), v8 = .int .i64 (i : Int) ∧ v9 = .int .i64 (k : Int) ∧ v10 = .int .i64 (j : Int) ∧ j ≤ n ∧ Hid (i = l.idx j) ∧ Hid (k = j - i) ∧ Hid (Drew ub wr)) (fun _ _ v10 _ => n - (intOf v10).toNat)
  case atStart => exact ⟨0, 0, 0, rfl, rfl, rfl, Nat.zero_le _, Lib.hid Lt.idx_zero.symm, Lib.hid rfl, Lib.hid (Drew.refl _)⟩
  case round =>
    obtain ⟨i, k, j, rfl, rfl, rfl, hj, HI, HKK, HDR⟩ := hrel
    have how := HOW.out.below HDR.out.bel
    by_cases hlt : j < n
    · have hlt2 : j < l.ds.length + l.cs.length := by have := HN.out; omega
      have hja : j < l.all.length := by rw [l.all_len]; exact hlt2
      have hdj : decide ((j : Int) < (n : Int)) = true := decide_eq_true (by omega)
      have hdj3 : decide (j < n) = true := decide_eq_true hlt
      have hdj2 : decide ((j : Int) < 0) = false := by simp
      obtain ⟨ag, aq, ea, hx⟩ := row_at how.all hja
      obtain ⟨x, hxe⟩ : ∃ x, l.all[j] = x := ⟨_, rfl⟩
      rw [hxe] at hx
      have hij : i ≤ j := by rw [HI.out]; exact Lt.idx_le HM.out j
      have hn128 := HN128.out
      have hb0 : (0 : Int) ≤ j := by omega
      have hb1 : (j : Int) ≤ 128 := by omega
      have hb2 : (0 : Int) ≤ i := by omega
      have hb3 : (i : Int) ≤ 128 := by omega
      have hb4 : (0 : Int) ≤ k := by omega
      have hb5 : (k : Int) ≤ 128 := by have := HKK.out; omega
      have hi0 : decide ((i : Int) < 0) = false := by simp
      have hk0 : decide ((k : Int) < 0) = false := by simp
      by_cases hcase : j < l.frm ∨ l.upto ≤ j
      · obtain ⟨hid, hde, hnx⟩ := Lt.idx_due HM.out hlt2 hcase
        obtain ⟨dg, dq, eb, hy⟩ := row_at how.due.read (i := i) (show i < l.dues.length by rw [HI.out]; exact hid)
        have hyx : l.dues[i]'(by rw [HI.out]; exact hid) = x := by
          rw [← hxe, ← hde]
          congr 1 <;> exact HI.out
        change wr.cell? ⟨dg, dq + i, none⟩ = some (.int .i64 (l.dues[i]'(by rw [HI.out]; exact hid))) at hy
        rw [hyx] at hy
        change a = some ⟨dg, dq, none⟩ at eb
        have hid2 : decide ((i : Int) < (l.dues.length : Int)) = true := decide_eq_true (by have := HI.out; omega)
        have hid3 : decide (i < l.dues.length) = true := decide_eq_true (by have := HI.out; omega)
        have HNX := Lib.hid (show i + 1 = l.idx (j + 1) by rw [hnx, HI.out])
        have HNK := Lib.hid (show k = j + 1 - (i + 1) by have := HKK.out; omega)
        cases ea
        cases eb
        have hid4 : i < l.dues.length := by have := HI.out; omega
        clear how hlt2 hja hxe hij hn128 hcase hid hde hnx hyx
        go_wp2_with fail
        go_quiet (fail)
        obtain ⟨w5, hw5⟩ : ∃ W, W = wr.drewN nq := ⟨_, rfl⟩
        have HDR5 := Lib.hid (show Drew ub w5 by rw [hw5]; exact HDR.out.more _)
        rw [← hw5]
        clear hw5 hx hy
        go_wp2_with fail
        go_roundw
        case rel => exact ⟨i + 1, k, j + 1, by go_num, rfl, by go_num, by omega, HNX, HNK, HDR5⟩
        case measure => simp [intOf]; omega
      · obtain ⟨hif, ⟨hks, hse⟩, hnx, hne⟩ := Lt.idx_skip HM.out hlt2 (by omega) (by omega)
        rw [← HI.out, ← HKK.out] at hks
        have hse2 : l.skips[k] = x := by
          rw [← hxe, ← hse]
          congr 1
          rw [← HI.out]
          exact HKK.out
        obtain ⟨sg, sq, ec, hz⟩ := row_at how.skip.read (i := k) hks
        change wr.cell? ⟨sg, sq + k, none⟩ = some (.int .i64 l.skips[k]) at hz
        rw [hse2] at hz
        change b = some ⟨sg, sq, none⟩ at ec
        have hks2 : decide ((k : Int) < (l.skips.length : Int)) = true := decide_eq_true (by omega)
        have hks3 : decide (k < l.skips.length) = true := decide_eq_true (by omega)
        have HNX := Lib.hid (show i = l.idx (j + 1) by rw [hnx, HI.out])
        have HNK := Lib.hid (show k + 1 = j + 1 - i by have := HKK.out; omega)
        by_cases hid : i < l.dues.length
        · have hid2 : decide ((i : Int) < (l.dues.length : Int)) = true := decide_eq_true (by omega)
          have hid3 : decide (i < l.dues.length) = true := decide_eq_true (by omega)
          obtain ⟨dg, dq, eb, hy⟩ := row_at how.due.read (i := i) hid
          change wr.cell? ⟨dg, dq + i, none⟩ = some (.int .i64 l.dues[i]) at hy
          change a = some ⟨dg, dq, none⟩ at eb
          have hne2 : l.dues[i] ≠ x := by
            rw [← hxe]
            have h := hne (by rw [← HI.out]; exact hid)
            intro e
            apply h
            rw [← e]
            congr 1
            exact HI.out.symm
          obtain ⟨y, hye⟩ : ∃ y, l.dues[i] = y := ⟨_, rfl⟩
          rw [hye] at hy hne2
          have hyx : (y == x) = false := by simpa using hne2
          cases ea
          cases eb
          cases ec
          clear how hlt2 hja hxe hij hn128 hcase hif hse hnx hne hse2 hne2 hye
          go_wp2_with fail
          go_quiet (fail)
          obtain ⟨w5, hw5⟩ : ∃ W, W = wr.drewN nq := ⟨_, rfl⟩
          have hb5' : Below wr.heap.size wr w5 := by rw [hw5]; exact bel_drewN (Below.refl _ _) _
          have HDR5 := Lib.hid (show Drew ub w5 by rw [hw5]; exact HDR.out.more _)
          have hx5 := stays hb5' hx
          have hz5 := stays hb5' hz
          rw [← hw5]
          clear hw5 hx hy hz hb5' hyx HDR
          go_wp2_with fail
          go_quiet (fail)
          obtain ⟨w6, hw6⟩ : ∃ W, W = w5.drewN nq := ⟨_, rfl⟩
          have HDR6 := Lib.hid (show Drew ub w6 by rw [hw6]; exact HDR5.out.more _)
          rw [← hw6]
          clear hw6 hx5 hz5 HDR5
          go_wp2_with fail
          go_roundw
          case rel => exact ⟨i, k + 1, j + 1, rfl, by go_num, by go_num, by omega, HNX, HNK, HDR6⟩
          case measure => simp [intOf]; omega
        · have hid2 : decide ((i : Int) < (l.dues.length : Int)) = false := decide_eq_false (by omega)
          have hid3 : decide (i < l.dues.length) = false := decide_eq_false (by omega)
          cases ea
          cases ec
          clear how hlt2 hja hxe hij hn128 hcase hid hif hse hnx hne hse2
          go_wp2_with fail
          go_quiet (fail)
          obtain ⟨w5, hw5⟩ : ∃ W, W = wr.drewN nq := ⟨_, rfl⟩
          have hb5' : Below wr.heap.size wr w5 := by rw [hw5]; exact bel_drewN (Below.refl _ _) _
          have HDR5 := Lib.hid (show Drew ub w5 by rw [hw5]; exact HDR.out.more _)
          have hx5 := stays hb5' hx
          have hz5 := stays hb5' hz
          rw [← hw5]
          clear hw5 hx hz hb5' HDR
          go_wp2_with fail
          go_quiet (fail)
          obtain ⟨w6, hw6⟩ : ∃ W, W = w5.drewN nq := ⟨_, rfl⟩
          have HDR6 := Lib.hid (show Drew ub w6 by rw [hw6]; exact HDR5.out.more _)
          rw [← hw6]
          clear hw6 hx5 hz5 HDR5
          go_wp2_with fail
          go_roundw
          case rel => exact ⟨i, k + 1, j + 1, rfl, by go_num, by go_num, by omega, HNX, HNK, HDR6⟩
          case measure => simp [intOf]; omega
    · have hdj : decide ((j : Int) < (n : Int)) = false := decide_eq_false (by omega)
      have hdj3 : decide (j < n) = false := decide_eq_false hlt
      have HW := Lib.hid how
      clear how hlt hj HI HKK HOW HDR
      go_upto_region 19 with fail
      refine last_wp _ _ _ _ _ _ _ _ _ _ _ _ _ _ _ _ _ _ _ _ _ _ _ _ _ _ _ _ _ _ _ _ _ _ _ _ _ _ _ _ _ _ _ _ _ _ _ _ _ _ _ _ _ _ _ _ _ _ _ _ _ _ _ _ _ _ _ _ _ _ _ _ _ _ _ _ _ _ _ _ _ _ _ _ _ _ _ _ _ _ _ _ _ _ _ _ _ _ _ _ _ _ _ _ _ _ _ _ _ _ _ _ _ _ _ _ _ _ _ _ _ _ _ _ _ _ _ _ _ _ _ _ _ _ _ _ _ _ _ _ _ _ _ _ _ _ _ _ _ _ _ _ _ _ _ _ _ _ _ _ _ _ _ _ _ _ _ _ _ _ _ _ _ _ _ _ _ _ _ _ _ _ _ _ _ _ _ _ _ _ _ _ _ _ _ _ _ _ _ w wr B l a b g ca cb cg n HN.out HM.out HW.out ?_
      intro y109 y110 y111 y112 y113 y114 y115 y116 y117 y118 y119 y120 y121 y122 y123 y124 y125 y126 y127 y128 y129 y130 y131 y132 y133 y134 y135 y136 y137 y138 y139 y140 y141 y142 y143 y144 y145 y146 y147 y148 y149 y150 y151 y152 y153 y154 y155 wz hdz
      have HWZ := Lib.hid (HW.out.below hdz.bel)
      clear hdz HW
      go_upto_region 21 with fail
      refine pol_wp _ _ _ _ _ _ _ _ _ _ _ _ _ _ _ _ _ _ _ _ _ _ _ _ _ _ _ _ _ _ _ _ _ _ _ _ _ _ _ _ _ _ _ _ _ _ _ _ _ _ _ _ _ _ _ _ _ _ _ _ _ _ _ _ _ _ _ _ _ _ _ _ _ _ _ _ _ _ _ _ _ _ _ _ _ _ _ _ _ _ _ _ _ _ _ _ _ _ _ _ _ _ _ _ _ _ _ _ _ _ _ _ _ _ _ _ _ _ _ _ _ _ _ _ _ _ _ _ _ _ _ _ _ _ _ _ _ _ _ _ _ _ _ _ _ _ _ _ _ _ _ _ _ _ _ _ _ _ _ _ _ _ _ _ _ _ _ _ _ _ _ _ _ _ _ _ _ _ _ _ _ _ _ _ _ _ _ _ _ _ _ _ _ _ _ _ _ _ _ w wz B l a b g ca cb n HN.out HM.out HWZ.out ?_
      intro y157 y158 y159 y160 y161 y162 y163 y164 y165 y166 y167 y168 y169 y170 y171 y172 y173 y174 y175 y176 y177 y178 y179
      obtain ⟨⟨c0, c1, c2⟩, c3, c4, c5⟩ := lobj_cells HWZ.out.row
      have fz3 := lfree HWZ.out.row 3
      have fz4 := lfree HWZ.out.row 4
      have hoff : Off B ⟨a, l.dues, ca⟩ := fun _ => HWZ.out.off
      have hr1 := lset_due HWZ.out.row a l.dues l.dues.length ca rfl
      have hr2 := lset_come hr1
      have fz5 := lfree hr1 4
      have hd2 := slf_set (i := 4) (v := .slice none 0 0) (slf_set (i := 3) (v := .slice a l.dues.length ca) HWZ.out.due hoff) hoff
      have hbs : Below w.heap.size w ((wz.setCell ⟨B, 3, none⟩ (.slice a l.dues.length ca)).setCell ⟨B, 4, none⟩ (.slice none 0 0)) := (HWZ.out.bel.setCell (p := ⟨B, 3, none⟩) HWZ.out.ge _).setCell (p := ⟨B, 4, none⟩) HWZ.out.ge _
      obtain ⟨ws, hws⟩ : ∃ W, W = (wz.setCell ⟨B, 3, none⟩ (.slice a l.dues.length ca)).setCell ⟨B, 4, none⟩ (.slice none 0 0) := ⟨_, rfl⟩
      rw [← hws] at hr2 hd2 hbs
      have HRS := Lib.hid hr2
      have HDS := Lib.hid hd2
      have HBS := Lib.hid hbs
      have HWS := Lib.hid hws
      clear hr1 hr2 hd2 hbs hws hoff
      have hjud := judge_yes (w := ws) (l := l.again a ca) ⟨HDS.out, ⟨Vals.nil _ _, fun _ => ⟨rfl, rfl⟩⟩⟩ (Lt.again_may HM.out a ca) (fun x hx => by cases hx)
      rw [(Lt.again_same HM.out a ca).1, (Lt.again_same HM.out a ca).2] at hjud
      have HJ2 := Lib.hid hjud
      unfold Lt.val Lt.cells lcells Lt.again at HJ2
      dsimp only at HJ2
      clear hjud
      go_wp2_with fail
      rw [← HWS.out]
      refine HJ2.out.mono ?_
      rintro e w8 ⟨a2, b2, ca2, cb2, rfl, hs1, -, -, -, hb8⟩
      have HSAME := Lib.hid (same_any (c := ca2) (d := ca) hs1.read (HDS.out.below hb8).read (by have := HL.out; show l.dues.length ≤ _; omega))
      have HB8 := Lib.hid (HBS.out.trans (hb8.mono HBS.out.size))
      have hL1 := HL.out.1
      clear hs1 hb8 c0 c1 c2 c3 c4 c5 fz3 fz4 fz5 HJ2
      dsimp only at HSAME
      go_wp2_with fail
      refine HSAME.out.mono ?_
      rintro e w9 ⟨rfl, hd9⟩
      have HB9 := Lib.hid (HB8.out.trans (hd9.bel.mono HB8.out.size))
      clear hd9
      go_wp2_with fail
      go_ret
      exact ⟨by simp, HB9.out⟩
end Go.Proofs.Ytkhajpefnkialaa.Job
