/- The log's Sync, by its contract. -/
import Derived.Test.YtmfemedcjgeheaaGreatDoorWhC
namespace Go.Proofs.YtmfemedcjgeheaaGreatDoor
open Go.RowKit Go.Maps Go.Sort Dsk Wl

/-- the segments are settled -/
def syncAll (M : Files) (ns : List Nat) : Files := ns.foldl (fun M k => upd M (nameOf k) (settled (M.at (nameOf k)).now)) M
theorem syncAll_succ (M : Files) (ns : List Nat) {i : Nat} (hi : i < ns.length) : syncAll M (ns.take (i + 1)) = upd (syncAll M (ns.take i)) (nameOf ns[i]) (settled ((syncAll M (ns.take i)).at (nameOf ns[i])).now) := by
  unfold syncAll
  rw [List.take_add_one, List.getElem?_eq_getElem hi, Option.toList_some, List.foldl_append]
  rfl
theorem tame_settled {M : Files} (h : Tame M) (k : Nat) : Tame (upd M (nameOf k) (settled (M.at (nameOf k)).now)) := by
  refine tame_upd h (by rw [name_len]; decide) fun f hf => ?_
  unfold settled at hf
  split at hf
  · cases hf; simp
  · cases hf
theorem syncAll_other {n : Name} : ∀ (ns : List Nat) {M : Files}, (∀ k ∈ ns, n ≠ nameOf k) → (syncAll M ns) n = M n
  | [], M, _ => rfl
  | k :: ns, M, h => by
    show (syncAll (upd M (nameOf k) _) ns) n = _
    rw [syncAll_other ns (fun x hx => h x (by simp [hx])), upd_other _ _ (h k (by simp))]

set_option maxRecDepth 100000 in
set_option maxHeartbeats 2000000 in
theorem sync_wal {w : World} {B g N : Nat} {o : Tags} {M : Files} (h : Live w B o g M N) (hb : Nat) (hw : WalAt w o hb g) :
    Calls Tryz.prog 13 #[.pointer (some ⟨hb, 0, none⟩)] w fun r w' => ∃ ks o', NamesOf M (fun f => f.loose) ks ∧ r = .returned (.int .i64 0) ∧ Live w' B o' g (syncAll M (numsOf ks)) N ∧ Step o w o' w' := by
  have hc := hw.cell
  have HLO := Lib.hid (loose_all g B N o M w h.disk (by have := h.few; omega) (fun l f hf => by have := (h.tame l f hf).2; omega))
  have HL := Lib.hid h
  have HW := Lib.hid hw
  clear h hw
  go_enter Tryz.func13, Tryz.ntmps13
  go_wp2_with fail
  refine HLO.out.mono ?_
  rintro r w1 ⟨ks, a, c, rfl, hks, hsr, hb1, hkN⟩
  have HL1 := Lib.hid (HL.out.below hb1)
  have HAM := Lib.hid (among_any B _ ks a c w1 HL1.out.tabs HL1.out.hB hsr (by have := HL.out.few; omega) (fun n hn => by
    obtain ⟨f, hf, _⟩ := (hks.2 n).1 hn
    have := (HL.out.tame n f hf).1
    omega))
  have HB1 := Lib.hid hb1
  have hrise := nums_rise hks.1
  have hsome : ∀ k ∈ numsOf ks, (1 ≤ k ∧ k ≤ 99999999) ∧ (M (nameOf k)).isSome = true := fun k hk => by
    obtain ⟨h1, h2⟩ := nums_mem.1 hk
    obtain ⟨f, hf, _⟩ := (hks.2 _).1 h1
    exact ⟨h2, by rw [hf]; rfl⟩
  have hnl := nums_len ks
  have HK := Lib.hid hks
  clear hks hsr hb1 HLO
  go_wp2_with fail
  refine HAM.out.mono ?_
  rintro r w2 ⟨v, rfl, hsg, hb2⟩
  obtain ⟨ns, hns⟩ : ∃ ns, ns = numsOf ks := ⟨_, rfl⟩
  rw [← hns] at hsg hrise hsome hnl
  obtain ⟨sa, sc, rfl, _⟩ := hsg.shape
  rw [List.length_map] at hsg ⊢
  have HNS := Lib.hid hns
  obtain ⟨n, hn⟩ : ∃ n, n = ns.length := ⟨_, rfl⟩
  rw [← hn] at hsg ⊢
  have HN := Lib.hid hn
  have hb12 : Below w.heap.size w w2 := HB1.out.trans (hb2.mono HB1.out.size)
  have HSR := Lib.hid (hsg.less HB1.out.size)
  have HRISE := Lib.hid hrise
  have HSOME := Lib.hid hsome
  have hls : n ≤ 5000 := by have := HL.out.few; omega
  have HSTART := Lib.hid (show Live w2 B o g (syncAll M (ns.take 0)) N ∧ Step o w o w2 ∧ Kept w2 w.heap.size o w2 from ⟨HL.out.below hb12, Step.of_below o hb12, Kept.start fun k e => (HL.out.disk.owns k e).2⟩)
  clear hns hn hsg hrise hsome hb12 hb2 HAM HL1 HB1 hnl
  go_wp2_with fail
  go_loopw [21] (fun v wr => ∃ (i : Nat) (oi : Tags), i ≤ n ∧ v = .int .i64 (i : Int) ∧ Live wr B oi g (syncAll M (ns.take i)) N ∧ Step o w oi wr ∧ Kept w2 w.heap.size oi wr) (fun v _ => n - (intOf v).toNat)
  case atStart => exact ⟨0, o, Nat.zero_le _, rfl, HSTART.out⟩
  case round =>
    clear HSTART
    obtain ⟨i, oi, hi, rfl, hli, hst, hkp⟩ := hrel
    by_cases hin : i < n
    · have hil : i < ns.length := by rw [← HN.out]; exact hin
      have hsrw := HSR.out.kept hkp
      have hll : (ns.map Sx.mk0).length = ns.length := List.length_map _
      obtain ⟨sg, cap, ba, bc, hsv, j1, j2, s0, s1, s2, s3, s4, j3, j4, j5⟩ := hsrw.at_ (i := i) (by rw [hll]; exact hil)
      rw [List.getElem_map] at s0 s1 s2 s3 s4
      rw [hll, ← HN.out] at hsv
      simp only [Value.slice.injEq, true_and] at hsv
      obtain ⟨rfl, rfl⟩ := hsv
      obtain ⟨k, hk⟩ : ∃ k, k = ns[i] := ⟨_, rfl⟩
      rw [← hk] at s0 s1 s2 s3 s4
      simp only [Sx.mk0, List.length_nil] at s0 s1 s2 s3 s4
      rw [show ((0 : Nat) : Int) = 0 from rfl] at s2 s3 s4
      clear j1 j2 j3 j4 j5
      have hkm := HSOME.out k (by rw [hk]; exact List.getElem_mem hil)
      have hsm : ((syncAll M (ns.take i)) (nameOf k)).isSome = true := by
        rw [syncAll_other _ fun j hj => ?_]
        · exact hkm.2
        · intro e0
          have hj1 := HSOME.out j (List.mem_of_mem_take hj)
          have hjk := name_inj hkm.1 hj1.1 e0
          obtain ⟨q, hq, hqe⟩ := List.getElem_of_mem hj
          rw [List.length_take] at hq
          rw [List.getElem_take] at hqe
          have hlt := List.pairwise_iff_getElem.1 HRISE.out q i (by omega) hil (by omega)
          omega
      have hwi := HW.out.step hst
      have hal : Below wr.heap.size wr (wr.alloc (.cells #[.int .i64 (k : Int), .slice ba 0 bc, .int .i64 0, .int .i64 0, .int .u64 0] 75)) := (Below.refl _ _).alloc (Nat.le_refl _) _
      have HSM := Lib.hid hsm
      have HKR := Lib.hid hkm.1
      have HLI := Lib.hid hli
      have HST := Lib.hid hst
      have HKP := Lib.hid hkp
      have HKE := Lib.hid hk
      have HWI := Lib.hid hwi
      have HAL := Lib.hid hal
      have hc2 := hwi.cell
      clear hsrw hk hkm hsm hwi hli hst hkp hal
      have HIL := Lib.hid hil
      have HHELD := Lib.hid (show (wr.alloc (.cells #[.int .i64 (k : Int), .slice ba 0 bc, .int .i64 0, .int .i64 0, .int .u64 0] 75)).heap[hb]? = some (.cells #[.pointer (some ⟨g, 0, none⟩)] 61 (0, 0)) ∧ (wr.alloc (.cells #[.int .i64 (k : Int), .slice ba 0 bc, .int .i64 0, .int .i64 0, .int .u64 0] 75)).heap[wr.heap.size]? = some (.cells #[.int .i64 (k : Int), .slice ba 0 bc, .int .i64 0, .int .i64 0, .int .u64 0] 75 (0, 0)) from ⟨(HAL.out.block hb (lt_of_block HWI.out.1)).trans HWI.out.1, heap_alloc_new _ _⟩)
      go_wp2_with fail
      refine wp_region_held_drew (S := fun W => W.heap[hb]? = some (.cells #[.pointer (some ⟨g, 0, none⟩)] 61 (0, 0)) ∧ W.heap[wr.heap.size]? = some (.cells #[.int .i64 (k : Int), .slice ba 0 bc, .int .i64 0, .int .i64 0, .int .u64 0] 75 (0, 0))) (by kernel_rfl) HHELD.out (fun hHeld => ?_)
      refine wpAnyH_take (i := 0) (oi := ?_) (v := ?_) ?_ (by kernel_rfl) (by kernel_rfl) (by kernel_rfl) ?_ (Or.inl ⟨?_, ?_⟩) (by assumption) ?_
      rotate_left 2
      focus (simp only [List.getElem?_toArray, List.getElem?_cons_zero]; rfl)
      focus exact fun _ _ _ h => h
      focus rfl
      focus (intro W hS; (try dsimp only at hS); go_simp; (try with_reducible rfl))
      try simp only [Act.put]
      try simp only [List.setIfInBounds_toArray]
      try simp only [List.set_cons_succ]
      try simp only [List.set_cons_zero]
      refine wpAnyH_take (i := 1) (oi := ?_) (v := ?_) ?_ (by kernel_rfl) (by kernel_rfl) (by kernel_rfl) ?_ (Or.inl ⟨?_, ?_⟩) (by assumption) ?_
      rotate_left 2
      focus (simp only [List.getElem?_toArray, List.getElem?_cons_succ, List.getElem?_cons_zero]; rfl)
      focus exact fun _ _ _ h => h
      focus rfl
      focus (intro W hS; (try dsimp only at hS); go_simp; (try with_reducible rfl))
      try simp only [Act.put]
      try simp only [List.setIfInBounds_toArray]
      try simp only [List.set_cons_succ]
      try simp only [List.set_cons_zero]
      refine wpAnyH_take (i := 2) (oi := ?_) (v := ?_) ?_ (by kernel_rfl) (by kernel_rfl) (by kernel_rfl) ?_ (Or.inl ⟨?_, ?_⟩) (by assumption) ?_
      rotate_left 2
      focus (simp only [List.getElem?_toArray, List.getElem?_cons_succ, List.getElem?_cons_zero]; rfl)
      focus exact fun _ _ _ h => h
      focus rfl
      focus (intro W hS; (try dsimp only at hS); go_simp; (try with_reducible rfl))
      try simp only [Act.put]
      try simp only [List.setIfInBounds_toArray]
      try simp only [List.set_cons_succ]
      try simp only [List.set_cons_zero]
      refine wpAnyH_take (i := 3) (oi := ?_) (v := ?_) ?_ (by kernel_rfl) (by kernel_rfl) (by kernel_rfl) ?_ (Or.inl ⟨?_, ?_⟩) (by assumption) ?_
      rotate_left 2
      focus (simp only [List.getElem?_toArray, List.getElem?_cons_succ, List.getElem?_cons_zero]; rfl)
      focus exact fun _ _ _ h => h
      focus rfl
      focus (intro W hS; (try dsimp only at hS); have q : W.cell? ⟨hb, 0, none⟩ = some (.pointer (some ⟨g, 0, none⟩)) := by { rw [cell_of_row _ _ 0 _ _ _ hS.1]; rfl }; go_simp; (try with_reducible rfl))
      try simp only [Act.put]
      try simp only [List.setIfInBounds_toArray]
      try simp only [List.set_cons_succ]
      try simp only [List.set_cons_zero]
      refine wpAnyH_take (i := 4) (oi := ?_) (v := ?_) ?_ (by kernel_rfl) (by kernel_rfl) (by kernel_rfl) ?_ (Or.inl ⟨?_, ?_⟩) (by assumption) ?_
      rotate_left 2
      focus (simp only [List.getElem?_toArray, List.getElem?_cons_succ, List.getElem?_cons_zero]; rfl)
      focus exact fun _ _ _ h => h
      focus rfl
      focus (intro W hS; (try dsimp only at hS); have q0 : W.cell? ⟨wr.heap.size, 0, none⟩ = some (.int .i64 (k : Int)) := by { rw [cell_of_row _ _ 0 _ _ _ hS.2]; rfl }; have q1 : W.cell? ⟨wr.heap.size, 1, none⟩ = some (.slice ba 0 bc) := by { rw [cell_of_row _ _ 1 _ _ _ hS.2]; rfl }; have q2 : W.cell? ⟨wr.heap.size, 2, none⟩ = some (.int .i64 0) := by { rw [cell_of_row _ _ 2 _ _ _ hS.2]; rfl }; have q3 : W.cell? ⟨wr.heap.size, 3, none⟩ = some (.int .i64 0) := by { rw [cell_of_row _ _ 3 _ _ _ hS.2]; rfl }; have q4 : W.cell? ⟨wr.heap.size, 4, none⟩ = some (.int .u64 0) := by { rw [cell_of_row _ _ 4 _ _ _ hS.2]; rfl }; go_simp; (try with_reducible rfl))
      try simp only [Act.put]
      try simp only [List.setIfInBounds_toArray]
      try simp only [List.set_cons_succ]
      try simp only [List.set_cons_zero]
      refine wpAnyH_ready (rs := [5]) (by kernel_rfl) (by simp) ?_
      refine AllReadyH.cons (o := ?_) ?_ (fun K hK => ?_) AllReadyH.nil
      rotate_left
      focus (simp only [List.getElem?_toArray, List.getElem?_cons_succ, List.getElem?_cons_zero]; rfl)
      rw [if_pos (by rfl)]
      go_simp
      refine (((HLI.out.below HAL.out).below (Below.refl _ _).drew).name k (.slice ba 0 bc) (.int .i64 0) (.int .i64 0) (.int .u64 0) HKR.out.2).mono ?_
      rintro r w6 ⟨rfl, hb6⟩
      have hs6 : Step oi wr oi w6 := ((Step.of_below oi HAL.out).trans (Step.of_below oi (Below.refl _ _).drew)).trans (Step.of_below oi hb6)
      have HHELD6 := Lib.hid (show w6.heap[hb]? = _ ∧ w6.heap[wr.heap.size]? = _ from ⟨(hb6.block hb (lt_of_block HHELD.out.1)).trans HHELD.out.1, (hb6.block wr.heap.size (by simp)).trans HHELD.out.2⟩)
      have HL6 := Lib.hid (((HLI.out.below HAL.out).below (Below.refl _ _).drew).below hb6)
      have HS6 := Lib.hid hs6
      clear hb6 hs6
      go_wp2_with fail
      refine hK.out _ _ HHELD6.out (fun hHeld => ?_)
      clear hK K
      try simp only [Act.put]
      try simp only [List.setIfInBounds_toArray]
      try simp only [List.set_cons_succ]
      try simp only [List.set_cons_zero]
      refine wpAnyH_ready (rs := [6]) (by kernel_rfl) (by simp) ?_
      refine AllReadyH.cons (o := ?_) ?_ (fun K hK => ?_) AllReadyH.nil
      rotate_left
      focus (simp only [List.getElem?_toArray, List.getElem?_cons_succ, List.getElem?_cons_zero]; rfl)
      rw [if_pos (by rfl)]
      go_simp
      refine (sync_any g B N oi (syncAll M (ns.take i)) (nameOf k) w6 HL6.out.disk HSM.out (by rw [name_len]; decide) (by rw [name_len]; decide) (by have := HL6.out.few; omega) (HL6.out.at_ _)).mono ?_
      rintro r w7 ⟨rfl, o7, hd7, hs7⟩
      have hs8 : Step oi wr o7 w7 := HS6.out.trans hs7
      have HHELD7 := Lib.hid (show w7.heap[hb]? = _ ∧ w7.heap[wr.heap.size]? = _ from ⟨(hs7.block hb (lt_of_block HHELD6.out.1) HWI.out.2).trans HHELD6.out.1, (hs7.block wr.heap.size (lt_of_block HHELD6.out.2) (HLI.out.free (Nat.le_refl _))).trans HHELD6.out.2⟩)
      have HL7 := Lib.hid (show Live w7 B o7 g (syncAll M (ns.take (i + 1))) N by
        rw [syncAll_succ _ _ HIL.out, ← HKE.out]
        exact HLI.out.step hs8 hd7 (tame_settled HLI.out.tame k) HLI.out.few)
      have HS8 := Lib.hid hs8
      clear hd7 hs7 hs8
      go_wp2_with fail
      refine hK.out _ _ HHELD7.out (fun hHeld => ?_)
      clear hK K
      try simp only [Act.put]
      try simp only [List.setIfInBounds_toArray]
      try simp only [List.set_cons_succ]
      try simp only [List.set_cons_zero]
      refine wpAnyH_done (by kernel_rfl) ?_ _
      go_wp2_with fail
      go_roundw
      case rel => exact ⟨i + 1, o7, hin, by go_num, HL7.out, HST.out.trans HS8.out, HKP.out.step HS8.out⟩
      case measure => simp [intOf]; omega
    · obtain rfl : i = n := by omega
      have HLI := Lib.hid hli
      have HST := Lib.hid hst
      clear hli hst hkp
      go_wp2_with fail
      go_ret
      refine ⟨ks, oi, HK.out, rfl, ?_, HST.out⟩
      rw [← HNS.out]
      have := HLI.out
      rw [HN.out, List.take_length] at this
      exact this

end Go.Proofs.YtmfemedcjgeheaaGreatDoor
