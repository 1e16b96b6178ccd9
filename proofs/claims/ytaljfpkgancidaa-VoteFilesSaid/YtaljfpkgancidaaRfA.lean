/- The reference's Promise, by its contract. The reference's Get, by its contract. The reference's Shot, by its contract. The reference's Kept, by its contract. -/
import Derived.Test.YtaljfpkgancidaaVtA
import Derived.Test.YtaljfpkgancidaaTornV
import Derived.Test.YtaljfpkgancidaaPutA
import Derived.Test.YtaljfpkgancidaaRefPut
import Derived.Test.YtaljfpkgancidaaReg
import Derived.Test.YtaljfpkgancidaaTkA
import Derived.Test.YtaljfpkgancidaaRefFirst
import Derived.Test.YtaljfpkgancidaaGJA
import Derived.Test.YtaljfpkgancidaaPutV
import Derived.Test.YtaljfpkgancidaaRefScan
import Derived.Test.YtaljfpkgancidaaKeptV
namespace Go.Proofs.Ytaljfpkgancidaa
open Go.RowKit

/-- append in a region, whose run is known -/
theorem wp_append_run {P : Program} {o : Oper} {a : Act} {w w' : World} {v v' x : Value} {s y : Operand} {t : TypeId} {K : Act → World → Prop} {Q : Exit → Act → World → Prop}
    (ho : o.op = .call { callee := .builtin .append, args := #[s, y], argTypes := #[t, t] }) (hs : a.eval s = v) (hx : a.eval y = x) (hr : (Builtin.append_ #[t, t] o.type #[v, x]).run P w = .ok v' w') (hk : K (a.put o.dst v') w') : o.wp P a w K Q := by
  unfold Oper.wp execOp
  simp only [ho, resolve, invoke, builtin, Sem.run_bind, Sem.run_pure, Result.andThen_ok, List.map_toArray, List.map_cons, List.map_nil, hs, hx, hr]
  exact hk

theorem rec2 (t v : Nat) : Vt.recOf [t, v] = Num.put t ++ Num.put v := by simp [Vt.recOf]
theorem put_ne (n : Nat) : Num.put n ≠ [] := Num.enc_ne 9 n
theorem rec_ne (n : Nat) (ns : List Nat) : Vt.recOf (n :: ns) ≠ [] := fun h => put_ne n (List.append_eq_nil_iff.1 h).1

set_option maxRecDepth 100000 in
set_option maxHeartbeats 4000000 in
theorem refPromise_any (t v : Nat) (w : World) (h0 : t < 18446744073709551616) (h1 : v < 18446744073709551616) :
    Calls Try.prog 10 #[.agg #[.int .u64 (t : Int), .int .u64 (v : Int)]] w fun e w' => ∃ g c, e = .returned (.slice (some ⟨g, 0, none⟩) (Vt.voteOf t v).length c) ∧ Row w' w.heap.size (Vt.voteOf t v) (.slice (some ⟨g, 0, none⟩) (Vt.voteOf t v).length c) ∧ Below w.heap.size w w' := by
  obtain ⟨i0, hi, hz0, hz1, hz2⟩ := info_parts info5
  obtain ⟨wa, hwa⟩ : ∃ wa, wa = w.alloc (.cells #[.int .u64 (t : Int), .int .u64 (v : Int)] 24) := ⟨_, rfl⟩
  have hw1 : Below w.heap.size w wa := by rw [hwa]; exact (Below.refl _ _).alloc (Nat.le_refl _) _
  have hb1 : wa.heap[w.heap.size]? = some (.cells #[.int .u64 (t : Int), .int .u64 (v : Int)] 24 (0, 0)) := by rw [hwa]; exact heap_alloc_new _ _
  have HC0 := Lib.hid (show ∀ W, Below wa.heap.size wa W → W.cell? ⟨w.heap.size, 0, none⟩ = some (.int .u64 (t : Int)) from fun W h => by
    rw [cell_of_row W w.heap.size 0 _ _ _ ((h.block w.heap.size (lt_of_block hb1)).trans hb1)]; rfl)
  have HC1 := Lib.hid (show ∀ W, Below wa.heap.size wa W → W.cell? ⟨w.heap.size, 1, none⟩ = some (.int .u64 (v : Int)) from fun W h => by
    rw [cell_of_row W w.heap.size 1 _ _ _ ((h.block w.heap.size (lt_of_block hb1)).trans hb1)]; rfl)
  have HN0 := Lib.hid h0
  have HN1 := Lib.hid h1
  have HW1 := Lib.hid hw1
  have HB1 := Lib.hid hb1
  have HI := Lib.hid hi
  have HZ0 := Lib.hid hz0
  have HZ1 := Lib.hid hz1
  have HZ2 := Lib.hid hz2
  have HWA := Lib.hid hwa
  clear hi hz0 hz1 hz2 hwa hw1 hb1 h0 h1
  go_enter Try.func10, Try.ntmps10
  go_wp2_with fail
  rw [← HWA.out]
  refine wp_region_held_drew (S := fun W => Below wa.heap.size wa W) (by kernel_rfl) (Below.refl _ _).drew (fun hHeld => ?_)
  refine wpAnyH_take (i := 0) (oi := ?_) (v := ?_) ?_ (by kernel_rfl) (by kernel_rfl) (by kernel_rfl) ?_ (Or.inl ⟨?_, ?_⟩) (by assumption) ?_
  rotate_left 2
  focus (simp only [List.getElem?_toArray, List.getElem?_cons_zero]; rfl)
  focus exact fun _ _ _ h => h
  focus rfl
  focus (intro W hS; (try dsimp only at hS); go_simp; (try with_reducible rfl))
  try simp only [Act.put]
  try simp only [List.setIfInBounds_toArray]
  try simp only [List.set_cons_succ]
  try simp only [List.set_cons_zero]
  refine wpAnyH_take (i := 1) (oi := ?_) (v := ?_) ?_ (by kernel_rfl) (by kernel_rfl) (by kernel_rfl) ?_ (Or.inl ⟨?_, ?_⟩) (by assumption) ?_
  rotate_left 2
  focus (simp only [List.getElem?_toArray, List.getElem?_cons_succ, List.getElem?_cons_zero]; rfl)
  focus exact fun _ _ _ h => h
  focus rfl
  focus (intro W hS; (try dsimp only at hS); have q := HC0.out W hS; go_simp; (try with_reducible rfl))
  try simp only [Act.put]
  try simp only [List.setIfInBounds_toArray]
  try simp only [List.set_cons_succ]
  try simp only [List.set_cons_zero]
  refine wpAnyH_take (i := 3) (oi := ?_) (v := ?_) ?_ (by kernel_rfl) (by kernel_rfl) (by kernel_rfl) ?_ (Or.inl ⟨?_, ?_⟩) (by assumption) ?_
  rotate_left 2
  focus (simp only [List.getElem?_toArray, List.getElem?_cons_succ, List.getElem?_cons_zero]; rfl)
  focus exact fun _ _ _ h => h
  focus rfl
  focus (intro W hS; (try dsimp only at hS); go_simp; (try with_reducible rfl))
  try simp only [Act.put]
  try simp only [List.setIfInBounds_toArray]
  try simp only [List.set_cons_succ]
  try simp only [List.set_cons_zero]
  refine wpAnyH_take (i := 4) (oi := ?_) (v := ?_) ?_ (by kernel_rfl) (by kernel_rfl) (by kernel_rfl) ?_ (Or.inl ⟨?_, ?_⟩) (by assumption) ?_
  rotate_left 2
  focus (simp only [List.getElem?_toArray, List.getElem?_cons_succ, List.getElem?_cons_zero]; rfl)
  focus exact fun _ _ _ h => h
  focus rfl
  focus (intro W hS; (try dsimp only at hS); have q := HC1.out W hS; go_simp; (try with_reducible rfl))
  try simp only [Act.put]
  try simp only [List.setIfInBounds_toArray]
  try simp only [List.set_cons_succ]
  try simp only [List.set_cons_zero]
  refine wpAnyH_ready (rs := [2]) (by kernel_rfl) (by simp) ?_
  refine AllReadyH.cons (o := ?_) ?_ (fun K hK => ?_) AllReadyH.nil
  rotate_left
  focus (simp only [List.getElem?_toArray, List.getElem?_cons_succ, List.getElem?_cons_zero]; rfl)
  rw [if_pos (by rfl)]
  go_simp
  refine (refPut_any 9 t _ (Nat.le_refl _) (Nat.lt_trans HN0.out (by decide)) HN0.out).mono ?_
  rintro r w3 ⟨v3, rfl, hr3, hb3⟩
  have h3 := (Below.refl wa.heap.size wa).drew.trans hb3
  obtain ⟨g3, cap3, rfl, _, _, _, _, _⟩ := hr3.is (put_ne t)
  have HR3 := Lib.hid (show Row w3 wa.heap.size (Num.put t) (.slice (some ⟨g3, 0, none⟩) (Num.put t).length cap3) from hr3)
  clear hr3 hb3
  go_wp2_with fail
  refine hK.out _ _ h3 (fun hHeld => ?_)
  clear hK K
  try simp only [Act.put]
  try simp only [List.setIfInBounds_toArray]
  try simp only [List.set_cons_succ]
  try simp only [List.set_cons_zero]
  refine wpAnyH_ready (rs := [5]) (by kernel_rfl) (by simp) ?_
  refine AllReadyH.cons (o := ?_) ?_ (fun K hK => ?_) AllReadyH.nil
  rotate_left
  focus (simp only [List.getElem?_toArray, List.getElem?_cons_succ, List.getElem?_cons_zero]; rfl)
  rw [if_pos (by rfl)]
  go_simp
  refine (refPut_any 9 v _ (Nat.le_refl _) (Nat.lt_trans HN1.out (by decide)) HN1.out).mono ?_
  rintro r w4 ⟨v4, rfl, hr4, h4⟩
  obtain ⟨g4, cap4, rfl, hg40, _, _, _, _⟩ := hr4.is (put_ne v)
  have HR4 := Lib.hid (show Row w4 w3.heap.size (Num.put v) (.slice (some ⟨g4, 0, none⟩) (Num.put v).length cap4) from hr4)
  have h34 := h3.trans (h4.mono h3.size)
  clear hr4
  go_wp2_with fail
  refine hK.out _ _ h34 (fun hHeld => ?_)
  clear hK K
  try simp only [Act.put]
  try simp only [List.setIfInBounds_toArray]
  try simp only [List.set_cons_succ]
  try simp only [List.set_cons_zero]
  have hl3 := Num.put_len t
  have hl4 := Num.put_len v
  obtain ⟨v5, w5, hrun5, hown5, hgr5, _⟩ := run_append_own (P := Try.prog) w4 wa.heap.size 25 25 5 i0 (.int .u8 0) 1 1 Try.underlying25 HI.out HZ0.out HZ1.out HZ2.out rfl (by decide) _ _ _ (HR3.out.below h4) ⟨g4, 0, none⟩ (Num.put v).length cap4 ((Num.put v).map (Value.int .u8)) (by simp) (HR4.out.news (Below.refl _ _) rfl) (ints_oneCell .u8 _) (by unfold maxLen; omega) (by omega) h34.size
  have h5 : Below wa.heap.size wa w5 := h34.grown hgr5 h34.size (fun k hk => (World.ownsRow.lt HR3.out k hk).1)
  rw [← List.map_append, ← List.length_append, ← rec2] at hown5
  have hrow5 : Row w5 wa.heap.size (Vt.recOf [t, v]) v5 := hown5
  obtain ⟨g5, c5, rfl, _, _, _, _, _⟩ := hrow5.is (rec_ne t [v])
  have HR5 := Lib.hid hrow5
  clear hown5 hgr5 hrow5
  refine wpAnyH_ready (rs := [6]) (by kernel_rfl) (by simp) ?_
  refine AllReadyH.cons (o := ?_) ?_ (fun K hK => ?_) AllReadyH.nil
  rotate_left
  focus (simp only [List.getElem?_toArray, List.getElem?_cons_succ, List.getElem?_cons_zero]; rfl)
  rw [if_pos (by rfl)]
  refine wp_append_run rfl rfl rfl hrun5 ?_
  refine hK.out _ _ h5 (fun hHeld => ?_)
  clear hK K
  clear hrun5
  try simp only [Act.put]
  try simp only [List.setIfInBounds_toArray]
  try simp only [List.set_cons_succ]
  try simp only [List.set_cons_zero]
  have hrl := Vt.rec2_len t v
  have hrr := Vt.recOf_range _ (Vt.small2 HN0.out HN1.out)
  have hH5 := (HR5.out.here hrr (by omega)).1
  refine wpAnyH_ready (rs := [7]) (by kernel_rfl) (by simp) ?_
  refine AllReadyH.cons (o := ?_) ?_ (fun K hK => ?_) AllReadyH.nil
  rotate_left
  focus (simp only [List.getElem?_toArray, List.getElem?_cons_succ, List.getElem?_cons_zero]; rfl)
  rw [if_pos (by rfl)]
  go_simp
  refine (refFramePut_any (some ⟨g5, 0, none⟩) (Vt.recOf [t, v]).length c5 (Vt.recOf [t, v]) w5 rfl hH5.reads (by omega)).mono ?_
  rintro r w6 ⟨g6, c6, rfl, hr6, hb6⟩
  have h6 := h5.trans (hb6.mono h5.size)
  have HR6 := Lib.hid (show Row w6 w5.heap.size (Vt.voteOf t v) (.slice (some ⟨g6, 0, none⟩) (Vt.voteOf t v).length c6) from hr6)
  have H5S := Lib.hid h5.size
  clear hr6 hb6 hH5
  go_wp2_with fail
  refine hK.out _ _ h6 (fun hHeld => ?_)
  clear hK K
  try simp only [Act.put]
  try simp only [List.setIfInBounds_toArray]
  try simp only [List.set_cons_succ]
  try simp only [List.set_cons_zero]
  refine wpAnyH_take (i := 8) (oi := ?_) (v := ?_) ?_ (by kernel_rfl) (by kernel_rfl) (by kernel_rfl) ?_ (Or.inl ⟨?_, ?_⟩) (by assumption) ?_
  rotate_left 2
  focus (simp only [List.getElem?_toArray, List.getElem?_cons_succ, List.getElem?_cons_zero]; rfl)
  focus exact fun _ _ _ h => h
  focus rfl
  focus (intro W hS; (try dsimp only at hS); go_simp; (try with_reducible rfl))
  try simp only [Act.put]
  try simp only [List.setIfInBounds_toArray]
  try simp only [List.set_cons_succ]
  try simp only [List.set_cons_zero]
  refine wpAnyH_take (i := 9) (oi := ?_) (v := ?_) ?_ (by kernel_rfl) (by kernel_rfl) (by kernel_rfl) ?_ (Or.inl ⟨?_, ?_⟩) (by assumption) ?_
  rotate_left 2
  focus (simp only [List.getElem?_toArray, List.getElem?_cons_succ, List.getElem?_cons_zero]; rfl)
  focus exact fun _ _ _ h => h
  focus rfl
  focus (intro W hS; (try dsimp only at hS); go_simp; (try with_reducible rfl))
  try simp only [Act.put]
  try simp only [List.setIfInBounds_toArray]
  try simp only [List.set_cons_succ]
  try simp only [List.set_cons_zero]
  refine wpAnyH_take (i := 10) (oi := ?_) (v := ?_) ?_ (by kernel_rfl) (by kernel_rfl) (by kernel_rfl) ?_ (Or.inl ⟨?_, ?_⟩) (by assumption) ?_
  rotate_left 2
  focus (simp only [List.getElem?_toArray, List.getElem?_cons_succ, List.getElem?_cons_zero]; rfl)
  focus exact fun _ _ _ h => h
  focus rfl
  focus (intro W hS; (try dsimp only at hS); go_simp; (try with_reducible rfl))
  try simp only [Act.put]
  try simp only [List.setIfInBounds_toArray]
  try simp only [List.set_cons_succ]
  try simp only [List.set_cons_zero]
  refine wpAnyH_take (i := 11) (oi := ?_) (v := ?_) ?_ (by kernel_rfl) (by kernel_rfl) (by kernel_rfl) ?_ (Or.inl ⟨?_, ?_⟩) (by assumption) ?_
  rotate_left 2
  focus (simp only [List.getElem?_toArray, List.getElem?_cons_succ, List.getElem?_cons_zero]; rfl)
  focus exact fun _ _ _ h => h
  focus rfl
  focus (intro W hS; (try dsimp only at hS); go_simp; (try with_reducible rfl))
  try simp only [Act.put]
  try simp only [List.setIfInBounds_toArray]
  try simp only [List.set_cons_succ]
  try simp only [List.set_cons_zero]
  refine wpAnyH_take (i := 12) (oi := ?_) (v := ?_) ?_ (by kernel_rfl) (by kernel_rfl) (by kernel_rfl) ?_ (Or.inl ⟨?_, ?_⟩) (by assumption) ?_
  rotate_left 2
  focus (simp only [List.getElem?_toArray, List.getElem?_cons_succ, List.getElem?_cons_zero]; rfl)
  focus exact fun _ _ _ h => h
  focus rfl
  focus (intro W hS; (try dsimp only at hS); go_simp; (try with_reducible rfl))
  try simp only [Act.put]
  try simp only [List.setIfInBounds_toArray]
  try simp only [List.set_cons_succ]
  try simp only [List.set_cons_zero]
  refine wpAnyH_done (by kernel_rfl) ?_ _
  clear hrl hrr hl3 hl4 hg40
  have HB6 := Lib.hid (HW1.out.trans (h6.mono HW1.out.size))
  have hsz6 := Nat.le_trans HW1.out.size H5S.out
  clear h3 h4 h34 h5 h6
  go_wp2_with fail
  go_ret
  exact ⟨g6, c6, rfl, HR6.out.less hsz6, HB6.out⟩

end Go.Proofs.Ytaljfpkgancidaa

namespace Go.Proofs.Ytaljfpkgancidaa
open Go.RowKit

set_option maxRecDepth 100000 in
set_option maxHeartbeats 1000000 in
theorem refGet_any (a : Option Addr) (len cap : Nat) (bs : List Int) (w : World) (hz : len = bs.length) (hp : Reads w a bs) (hl : len ≤ 1000000) (hcap : len ≤ cap) (hcm : cap ≤ 9223372036854775807) :
    Calls Try.prog 15 #[.slice a len cap] w fun e w' => Below w.heap.size w w' ∧ ∃ r, Vt.GetIs bs r ∧ e = .returned (getV r) := by
  have hb1 : Below w.heap.size w (w.alloc zeroP) := (Below.refl _ _).alloc (Nat.le_refl _) _
  have HF := Lib.hid (refFirst_any a len cap bs _ hz (hp.below hb1) hl hcap hcm)
  have hbk : (w.alloc zeroP).heap[w.heap.size]? = some zeroP := heap_alloc_new w _
  have HBK := Lib.hid hbk
  have HB1 := Lib.hid hb1
  have HP := Lib.hid hp
  have HZ := Lib.hid hz
  obtain ⟨D, hD⟩ : ∃ D, D = Frame.firstOf bs := ⟨_, rfl⟩
  rw [← hD] at HF
  have HD := Lib.hid hD
  clear hb1 hbk hp hz hD
  go_enter Try.func15, Try.ntmps15
  go_wp2_with fail
  refine HF.out.mono ?_
  intro e w1 ht
  cases D with
  | none =>
    obtain ⟨rfl, hb2⟩ := ht
    have hbk1 := (hb2.block w.heap.size (by simp)).trans HBK.out
    have HB2 := Lib.hid (HB1.out.trans (hb2.mono HB1.out.size))
    clear hb2 HF
    obtain ⟨c0, c1⟩ := two_at hbk1
    have f0 : (w1).frozen? ⟨w.heap.size, 0, none⟩ = false := frozen_row hbk1
    have f1 : (w1).frozen? ⟨w.heap.size, 1, none⟩ = false := frozen_row hbk1
    have HE2 := Lib.hid hbk1
    clear hbk1
    go_wp2_with fail
    obtain ⟨d0, d1⟩ := two_at (two_cells HE2.out (.int .u64 0) (.int .u64 0))
    refine bodyPost_ret (v := .tuple #[.agg #[.int .u64 0, .int .u64 0], .int .i64 4]) (by simp [results, Try.results15, go_sem, d0, d1]) rfl ⟨two_below (Nat.le_refl _) _ _ (HB2.out), none, ?_, rfl⟩
    exact Vt.ref_first_none HD.out.symm
  | some zm =>
    obtain ⟨zs, m⟩ := zm
    obtain ⟨g, c, rfl, hg, hh, hc, hb2⟩ := ht
    have hbk1 := (hb2.block w.heap.size (by simp)).trans HBK.out
    have HB2 := Lib.hid (HB1.out.trans (hb2.mono HB1.out.size))
    have HH := Lib.hid hh
    have hzl : zs.length ≤ 4096 := (Frame.first_is HP.out.hr HD.out.symm).1
    have HDL := Lib.hid (fun n j h => Num.dec_lt 10 0 0 zs n j (by omega) (by simp) hh.hr h)
    have HT := Lib.hid (refTake2_any (some ⟨g, 0, none⟩) zs.length c 0 zs w1 hh.reads rfl (by omega) (by omega) hc)
    rw [show ((0 : Nat) : Int) = 0 from rfl, List.drop_zero] at HT
    have HBK1 := Lib.hid hbk1
    obtain ⟨D1, hD1⟩ : ∃ D1, D1 = Num.dec 10 0 0 zs := ⟨_, rfl⟩
    rw [← hD1] at HT
    have HD1 := Lib.hid hD1
    clear hb2 HF hh hbk1 hD1
    go_wp2_with fail
    refine HT.out.mono ?_
    intro e w2 ht
    clear HT
    cases D1 with
    | none =>
      obtain ⟨rfl, hb3⟩ := ht
      have hbk2 := (hb3.block w.heap.size (lt_of_block HBK1.out)).trans HBK1.out
      have HB3 := Lib.hid (HB2.out.trans (hb3.mono HB2.out.size))
      clear hb3
      obtain ⟨c0, c1⟩ := two_at hbk2
      have f0 : (w2).frozen? ⟨w.heap.size, 0, none⟩ = false := frozen_row hbk2
      have f1 : (w2).frozen? ⟨w.heap.size, 1, none⟩ = false := frozen_row hbk2
      have HE2 := Lib.hid hbk2
      clear hbk2
      go_wp2_with fail
      obtain ⟨d0, d1⟩ := two_at (two_cells HE2.out (.int .u64 0) (.int .u64 0))
      refine bodyPost_ret (v := .tuple #[.agg #[.int .u64 0, .int .u64 0], .int .i64 4]) (by simp [results, Try.results15, go_sem, d0, d1]) rfl ⟨two_below (Nat.le_refl _) _ _ (HB3.out), none, ?_, rfl⟩
      exact Vt.ref_get_no1 HD.out.symm HD1.out.symm
    | some nk =>
      obtain ⟨n, k⟩ := nk
      obtain ⟨he, hb3⟩ := ht
      rw [show ((0 : Nat) : Int) + (k : Int) = (k : Int) by omega] at he
      subst he
      obtain ⟨hn, hk0, hk⟩ := HDL.out n k HD1.out.symm
      have hbk2 := (hb3.block w.heap.size (lt_of_block HBK1.out)).trans HBK1.out
      have HB3 := Lib.hid (HB2.out.trans (hb3.mono HB2.out.size))
      have HT := Lib.hid (refTake2_any (some ⟨g, 0, none⟩) zs.length c k zs w2 (HH.out.below hb3).reads rfl (by omega) (by omega) hc)
      have HBK2 := Lib.hid hbk2
      have HN := Lib.hid hn
      obtain ⟨D2, hD2⟩ : ∃ D2, D2 = Num.dec 10 0 0 (zs.drop k) := ⟨_, rfl⟩
      rw [← hD2] at HT
      have HD2 := Lib.hid hD2
      clear hb3 hbk2 hD2 hn
      go_wp2_with fail
      refine HT.out.mono ?_
      intro e w3 ht
      clear HT
      cases D2 with
      | none =>
        obtain ⟨rfl, hb4⟩ := ht
        have hbk3 := (hb4.block w.heap.size (lt_of_block HBK2.out)).trans HBK2.out
        have hal : Below w3.heap.size w3 (w3.alloc (.cells #[.int .u64 (n : Int), .int .u64 0] 24)) := (Below.refl _ _).alloc (Nat.le_refl _) _
        have hbk4 := (hal.block w.heap.size (lt_of_block hbk3)).trans hbk3
        have hb34 := HB3.out.trans (hb4.mono HB3.out.size)
        have HB4 := Lib.hid (hb34.trans (hal.mono hb34.size))
        have hpb := heap_alloc_new w3 (.cells #[.int .u64 (n : Int), .int .u64 0] 24)
        obtain ⟨wa, hwa⟩ : ∃ wa, wa = w3.alloc (.cells #[.int .u64 (n : Int), .int .u64 0] 24) := ⟨_, rfl⟩
        rw [← hwa] at hbk4 HB4 hpb
        have HWA := Lib.hid hwa
        have HBK4 := Lib.hid hbk4
        clear hb4 hbk3 hal hb34 hwa hbk4 hpb
        go_wp2_with fail
        rw [← HWA.out]
        refine wp_region_held_drew (S := (fun W => Below wa.heap.size wa W)) (by kernel_rfl) (Below.refl _ _).drew (fun hHeld => ?_)
        refine wpAnyH_take (i := 0) (oi := ?_) (v := ?_) ?_ (by kernel_rfl) (by kernel_rfl) (by kernel_rfl) ?_ (Or.inl ⟨?_, ?_⟩) (by assumption) ?_
        rotate_left 2
        focus (simp only [List.getElem?_toArray, List.getElem?_cons_zero]; rfl)
        focus exact fun _ _ _ h => h
        focus rfl
        focus (intro W hS; (try dsimp only at hS); go_simp; (try with_reducible rfl))
        try simp only [Act.put]
        try simp only [List.setIfInBounds_toArray]
        try simp only [List.set_cons_succ]
        try simp only [List.set_cons_zero]
        refine wpAnyH_take (i := 1) (oi := ?_) (v := ?_) ?_ (by kernel_rfl) (by kernel_rfl) (by kernel_rfl) ?_ (Or.inl ⟨?_, ?_⟩) (by assumption) ?_
        rotate_left 2
        focus (simp only [List.getElem?_toArray, List.getElem?_cons_succ, List.getElem?_cons_zero]; rfl)
        focus exact fun _ _ _ h => h
        focus rfl
        focus (intro W hS; (try dsimp only at hS); go_simp; (try with_reducible rfl))
        try simp only [Act.put]
        try simp only [List.setIfInBounds_toArray]
        try simp only [List.set_cons_succ]
        try simp only [List.set_cons_zero]
        refine wpAnyH_take (i := 2) (oi := ?_) (v := ?_) ?_ (by kernel_rfl) (by kernel_rfl) (by kernel_rfl) ?_ (Or.inl ⟨?_, ?_⟩) (by assumption) ?_
        rotate_left 2
        focus (simp only [List.getElem?_toArray, List.getElem?_cons_succ, List.getElem?_cons_zero]; rfl)
        focus exact fun _ _ _ h => h
        focus rfl
        focus (intro W hS; (try dsimp only at hS); go_simp; (try with_reducible rfl))
        try simp only [Act.put]
        try simp only [List.setIfInBounds_toArray]
        try simp only [List.set_cons_succ]
        try simp only [List.set_cons_zero]
        refine wpAnyH_take (i := 3) (oi := ?_) (v := undef) ?_ (by kernel_rfl) (by kernel_rfl) (by kernel_rfl) ?_ (Or.inr ⟨?_, rfl⟩) (by assumption) ?_
        rotate_left
        focus (simp only [List.getElem?_toArray, List.getElem?_cons_succ, List.getElem?_cons_zero]; rfl)
        focus exact fun _ _ _ h => h
        focus rfl
        try simp only [Act.put]
        try simp only [List.setIfInBounds_toArray]
        try simp only [List.set_cons_succ]
        try simp only [List.set_cons_zero]
        refine wpAnyH_take (i := 4) (oi := ?_) (v := undef) ?_ (by kernel_rfl) (by kernel_rfl) (by kernel_rfl) ?_ (Or.inr ⟨?_, rfl⟩) (by assumption) ?_
        rotate_left
        focus (simp only [List.getElem?_toArray, List.getElem?_cons_succ, List.getElem?_cons_zero]; rfl)
        focus exact fun _ _ _ h => h
        focus rfl
        try simp only [Act.put]
        try simp only [List.setIfInBounds_toArray]
        try simp only [List.set_cons_succ]
        try simp only [List.set_cons_zero]
        refine wpAnyH_take (i := 5) (oi := ?_) (v := undef) ?_ (by kernel_rfl) (by kernel_rfl) (by kernel_rfl) ?_ (Or.inr ⟨?_, rfl⟩) (by assumption) ?_
        rotate_left
        focus (simp only [List.getElem?_toArray, List.getElem?_cons_succ, List.getElem?_cons_zero]; rfl)
        focus exact fun _ _ _ h => h
        focus rfl
        try simp only [Act.put]
        try simp only [List.setIfInBounds_toArray]
        try simp only [List.set_cons_succ]
        try simp only [List.set_cons_zero]
        refine wpAnyH_take (i := 6) (oi := ?_) (v := undef) ?_ (by kernel_rfl) (by kernel_rfl) (by kernel_rfl) ?_ (Or.inr ⟨?_, rfl⟩) (by assumption) ?_
        rotate_left
        focus (simp only [List.getElem?_toArray, List.getElem?_cons_succ, List.getElem?_cons_zero]; rfl)
        focus exact fun _ _ _ h => h
        focus rfl
        try simp only [Act.put]
        try simp only [List.setIfInBounds_toArray]
        try simp only [List.set_cons_succ]
        try simp only [List.set_cons_zero]
        refine wpAnyH_take (i := 7) (oi := ?_) (v := undef) ?_ (by kernel_rfl) (by kernel_rfl) (by kernel_rfl) ?_ (Or.inr ⟨?_, rfl⟩) (by assumption) ?_
        rotate_left
        focus (simp only [List.getElem?_toArray, List.getElem?_cons_succ, List.getElem?_cons_zero]; rfl)
        focus exact fun _ _ _ h => h
        focus rfl
        try simp only [Act.put]
        try simp only [List.setIfInBounds_toArray]
        try simp only [List.set_cons_succ]
        try simp only [List.set_cons_zero]
        refine wpAnyH_take (i := 8) (oi := ?_) (v := undef) ?_ (by kernel_rfl) (by kernel_rfl) (by kernel_rfl) ?_ (Or.inr ⟨?_, rfl⟩) (by assumption) ?_
        rotate_left
        focus (simp only [List.getElem?_toArray, List.getElem?_cons_succ, List.getElem?_cons_zero]; rfl)
        focus exact fun _ _ _ h => h
        focus rfl
        try simp only [Act.put]
        try simp only [List.setIfInBounds_toArray]
        try simp only [List.set_cons_succ]
        try simp only [List.set_cons_zero]
        refine wpAnyH_take (i := 9) (oi := ?_) (v := ?_) ?_ (by kernel_rfl) (by kernel_rfl) (by kernel_rfl) ?_ (Or.inl ⟨?_, ?_⟩) (by assumption) ?_
        rotate_left 2
        focus (simp only [List.getElem?_toArray, List.getElem?_cons_succ, List.getElem?_cons_zero]; rfl)
        focus exact fun _ _ _ h => h
        focus rfl
        focus (intro W hS; (try dsimp only at hS); go_simp; (try with_reducible rfl))
        try simp only [Act.put]
        try simp only [List.setIfInBounds_toArray]
        try simp only [List.set_cons_succ]
        try simp only [List.set_cons_zero]
        refine wpAnyH_done (by kernel_rfl) ?_ _
        have hbk5 : wa.drew.heap[w.heap.size]? = some zeroP := HBK4.out
        have HB5 := Lib.hid (HB4.out.drew)
        generalize wa.drew = wd at hbk5 HB5 ⊢
        obtain ⟨c0, c1⟩ := two_at hbk5
        have f0 : (wd).frozen? ⟨w.heap.size, 0, none⟩ = false := frozen_row hbk5
        have f1 : (wd).frozen? ⟨w.heap.size, 1, none⟩ = false := frozen_row hbk5
        have HE2 := Lib.hid hbk5
        clear hbk5
        go_wp2_with fail
        obtain ⟨d0, d1⟩ := two_at (two_cells HE2.out (.int .u64 0) (.int .u64 0))
        refine bodyPost_ret (v := .tuple #[.agg #[.int .u64 0, .int .u64 0], .int .i64 4]) (by simp [results, Try.results15, go_sem, d0, d1]) rfl ⟨two_below (Nat.le_refl _) _ _ (HB5.out), none, ?_, rfl⟩
        exact Vt.ref_get_no2 HD.out.symm HD1.out.symm HD2.out.symm
      | some nk2 =>
        obtain ⟨n2, k2⟩ := nk2
        obtain ⟨rfl, hb4⟩ := ht
        obtain ⟨hn1, hn2⟩ := Vt.ref_get_yes HH.out.hr HD1.out.symm HD2.out.symm
        have hbk3 := (hb4.block w.heap.size (lt_of_block HBK2.out)).trans HBK2.out
        have hal : Below w3.heap.size w3 (w3.alloc (.cells #[.int .u64 (n : Int), .int .u64 (n2 : Int)] 24)) := (Below.refl _ _).alloc (Nat.le_refl _) _
        have hbk4 := (hal.block w.heap.size (lt_of_block hbk3)).trans hbk3
        have hb34 := HB3.out.trans (hb4.mono HB3.out.size)
        have HB4 := Lib.hid (hb34.trans (hal.mono hb34.size))
        have hpb := heap_alloc_new w3 (.cells #[.int .u64 (n : Int), .int .u64 (n2 : Int)] 24)
        have hplt : w.heap.size < w3.heap.size := lt_of_block hbk3
        obtain ⟨wa, hwa⟩ : ∃ wa, wa = w3.alloc (.cells #[.int .u64 (n : Int), .int .u64 (n2 : Int)] 24) := ⟨_, rfl⟩
        rw [← hwa] at hbk4 HB4 hpb
        have HWA := Lib.hid hwa
        have HBK4 := Lib.hid hbk4
        have HPB := Lib.hid hpb
        obtain ⟨p0, p1⟩ := two_at hpb
        have HC0 := Lib.hid (show ∀ W, Below wa.heap.size wa W → W.cell? ⟨w3.heap.size, 0, none⟩ = some (.int .u64 (n : Int)) from fun W h => by
          rw [cell_of_row W w3.heap.size 0 _ _ _ ((h.block _ (lt_of_block HPB.out)).trans HPB.out)]; rfl)
        have HC1 := Lib.hid (show ∀ W, Below wa.heap.size wa W → W.cell? ⟨w3.heap.size, 1, none⟩ = some (.int .u64 (n2 : Int)) from fun W h => by
          rw [cell_of_row W w3.heap.size 1 _ _ _ ((h.block _ (lt_of_block HPB.out)).trans HPB.out)]; rfl)
        have HPR := Lib.hid (fun W => refPromise_any n n2 W hn1 hn2)
        have HRDB := Lib.hid (HP.out.below HB4.out)
        have HNN := Lib.hid (And.intro hn1 hn2)
        clear hb4 hbk3 hal hb34 hwa hbk4 hpb p0 p1 hn1 hn2
        go_wp2_with fail
        rw [← HWA.out]
        have cv2 := fun (W : World) (hW : Below wa.heap.size wa W) => (HRDB.out.below hW).text len cap HZ.out
        have HSB := Lib.hid (fun (hvr : ∀ x ∈ Vt.voteOf n n2, 0 ≤ x ∧ x ≤ 255) => str_eq hvr HP.out.hr)
        obtain ⟨SB, hSB⟩ : ∃ SB, SB = strOfNums bs := ⟨_, rfl⟩
        rw [← hSB] at cv2 HSB
        have CV2 := Lib.hid cv2
        have HSBE := Lib.hid hSB
        clear cv2 hSB
        refine wp_region_held_drew (S := (fun W => Below wa.heap.size wa W)) (by kernel_rfl) (Below.refl _ _).drew (fun hHeld => ?_)
        refine wpAnyH_take (i := 0) (oi := ?_) (v := ?_) ?_ (by kernel_rfl) (by kernel_rfl) (by kernel_rfl) ?_ (Or.inl ⟨?_, ?_⟩) (by assumption) ?_
        rotate_left 2
        focus (simp only [List.getElem?_toArray, List.getElem?_cons_zero]; rfl)
        focus exact fun _ _ _ h => h
        focus rfl
        focus (intro W hS; (try dsimp only at hS); go_simp; (try with_reducible rfl))
        try simp only [Act.put]
        try simp only [List.setIfInBounds_toArray]
        try simp only [List.set_cons_succ]
        try simp only [List.set_cons_zero]
        refine wpAnyH_take (i := 1) (oi := ?_) (v := ?_) ?_ (by kernel_rfl) (by kernel_rfl) (by kernel_rfl) ?_ (Or.inl ⟨?_, ?_⟩) (by assumption) ?_
        rotate_left 2
        focus (simp only [List.getElem?_toArray, List.getElem?_cons_succ, List.getElem?_cons_zero]; rfl)
        focus exact fun _ _ _ h => h
        focus rfl
        focus (intro W hS; (try dsimp only at hS); go_simp; (try with_reducible rfl))
        try simp only [Act.put]
        try simp only [List.setIfInBounds_toArray]
        try simp only [List.set_cons_succ]
        try simp only [List.set_cons_zero]
        refine wpAnyH_take (i := 2) (oi := ?_) (v := ?_) ?_ (by kernel_rfl) (by kernel_rfl) (by kernel_rfl) ?_ (Or.inl ⟨?_, ?_⟩) (by assumption) ?_
        rotate_left 2
        focus (simp only [List.getElem?_toArray, List.getElem?_cons_succ, List.getElem?_cons_zero]; rfl)
        focus exact fun _ _ _ h => h
        focus rfl
        focus (intro W hS; (try dsimp only at hS); go_simp; (try with_reducible rfl))
        try simp only [Act.put]
        try simp only [List.setIfInBounds_toArray]
        try simp only [List.set_cons_succ]
        try simp only [List.set_cons_zero]
        refine wpAnyH_take (i := 3) (oi := ?_) (v := ?_) ?_ (by kernel_rfl) (by kernel_rfl) (by kernel_rfl) ?_ (Or.inl ⟨?_, ?_⟩) (by assumption) ?_
        rotate_left 2
        focus (simp only [List.getElem?_toArray, List.getElem?_cons_succ, List.getElem?_cons_zero]; rfl)
        focus exact fun _ _ _ h => h
        focus rfl
        focus (intro W hS; (try dsimp only at hS); have q0 := HC0.out W hS; have q1 := HC1.out W hS; go_simp; (try with_reducible rfl))
        try simp only [Act.put]
        try simp only [List.setIfInBounds_toArray]
        try simp only [List.set_cons_succ]
        try simp only [List.set_cons_zero]
        refine wpAnyH_take (i := 6) (oi := ?_) (v := ?_) ?_ (by kernel_rfl) (by kernel_rfl) (by kernel_rfl) ?_ (Or.inl ⟨?_, ?_⟩) (by assumption) ?_
        rotate_left 2
        focus (simp only [List.getElem?_toArray, List.getElem?_cons_succ, List.getElem?_cons_zero]; rfl)
        focus exact fun _ _ _ h => h
        focus rfl
        focus (intro W hS; (try dsimp only at hS); go_simp; (try with_reducible rfl))
        try simp only [Act.put]
        try simp only [List.setIfInBounds_toArray]
        try simp only [List.set_cons_succ]
        try simp only [List.set_cons_zero]
        refine wpAnyH_take (i := 7) (oi := ?_) (v := ?_) ?_ (by kernel_rfl) (by kernel_rfl) (by kernel_rfl) ?_ (Or.inl ⟨?_, ?_⟩) (by assumption) ?_
        rotate_left 2
        focus (simp only [List.getElem?_toArray, List.getElem?_cons_succ, List.getElem?_cons_zero]; rfl)
        focus exact fun _ _ _ h => h
        focus rfl
        focus (intro W hS; (try dsimp only at hS); have q := CV2.out W hS; go_simp; (try with_reducible rfl))
        try simp only [Act.put]
        try simp only [List.setIfInBounds_toArray]
        try simp only [List.set_cons_succ]
        try simp only [List.set_cons_zero]
        refine wpAnyH_ready (rs := [4]) (by kernel_rfl) (by simp) ?_
        refine AllReadyH.cons (o := ?_) ?_ (fun K hK => ?_) AllReadyH.nil
        rotate_left
        focus (simp only [List.getElem?_toArray, List.getElem?_cons_succ, List.getElem?_cons_zero]; rfl)
        rw [if_pos (by rfl)]
        go_simp
        refine (HPR.out _).mono ?_
        rintro r w5 ⟨g5, c5, rfl, hr5, hb5⟩
        have h5 : Below wa.heap.size wa w5 := (Below.refl wa.heap.size wa).drew.trans hb5
        have hvr : ∀ x ∈ Vt.voteOf n n2, 0 ≤ x ∧ x ≤ 255 := Frame.frame_range (zs := Vt.recOf [n, n2]) (by have := Vt.rec2_len n n2; omega) (Vt.recOf_range _ (Vt.small2 HNN.out.1 HNN.out.2))
        have cv1 := fun (W : World) (hW : Below w5.heap.size w5 W) => hr5.text hW
        have hse := HSB.out hvr
        have CV1 := Lib.hid cv1
        have HSE := Lib.hid hse
        clear hr5 hb5 cv1 hse hvr
        go_wp2_with fail
        refine hK.out _ _ h5 (fun hHeld => ?_)
        clear hK K
        try simp only [Act.put]
        try simp only [List.setIfInBounds_toArray]
        try simp only [List.set_cons_succ]
        try simp only [List.set_cons_zero]
        by_cases hq : Vt.voteOf n n2 = bs
        · have hcv := CV1.out
          rw [hq, ← HSBE.out] at hcv
          have HCV := Lib.hid hcv
          clear hcv CV1 HSE
          refine wpAnyH_sharper (S' := fun W => Below w5.heap.size w5 W) (fun W hW => h5.trans (hW.mono h5.size)) _ _ _ _ ?_
          have hHeld : Below w5.heap.size w5 w5 := Below.refl _ _
          refine wpAnyH_take (i := 5) (oi := ?_) (v := ?_) ?_ (by kernel_rfl) (by kernel_rfl) (by kernel_rfl) ?_ (Or.inl ⟨?_, ?_⟩) (by assumption) ?_
          rotate_left 2
          focus (simp only [List.getElem?_toArray, List.getElem?_cons_succ, List.getElem?_cons_zero]; rfl)
          focus exact fun _ _ _ h => h
          focus rfl
          focus (intro W hS; (try dsimp only at hS); have q := HCV.out W hS; go_simp; (try with_reducible rfl))
          try simp only [Act.put]
          try simp only [List.setIfInBounds_toArray]
          try simp only [List.set_cons_succ]
          try simp only [List.set_cons_zero]
          refine wpAnyH_take (i := 8) (oi := ?_) (v := ?_) ?_ (by kernel_rfl) (by kernel_rfl) (by kernel_rfl) ?_ (Or.inl ⟨?_, ?_⟩) (by assumption) ?_
          rotate_left 2
          focus (simp only [List.getElem?_toArray, List.getElem?_cons_succ, List.getElem?_cons_zero]; rfl)
          focus exact fun _ _ _ h => h
          focus rfl
          focus (intro W hS; (try dsimp only at hS); go_simp; (try with_reducible rfl))
          try simp only [Act.put]
          try simp only [List.setIfInBounds_toArray]
          try simp only [List.set_cons_succ]
          try simp only [List.set_cons_zero]
          refine wpAnyH_take (i := 9) (oi := ?_) (v := ?_) ?_ (by kernel_rfl) (by kernel_rfl) (by kernel_rfl) ?_ (Or.inl ⟨?_, ?_⟩) (by assumption) ?_
          rotate_left 2
          focus (simp only [List.getElem?_toArray, List.getElem?_cons_succ, List.getElem?_cons_zero]; rfl)
          focus exact fun _ _ _ h => h
          focus rfl
          focus (intro W hS; (try dsimp only at hS); go_simp; (try with_reducible rfl))
          try simp only [Act.put]
          try simp only [List.setIfInBounds_toArray]
          try simp only [List.set_cons_succ]
          try simp only [List.set_cons_zero]
          refine wpAnyH_done (by kernel_rfl) ?_ _
          have hbk5 : w5.heap[w.heap.size]? = some zeroP := (h5.block w.heap.size (lt_of_block HBK4.out)).trans HBK4.out
          have HB5 := Lib.hid (HB4.out.trans (h5.mono HB4.out.size))
          obtain ⟨k0, k1⟩ := two_at ((h5.block _ (lt_of_block HPB.out)).trans HPB.out)
          clear hHeld h5
          obtain ⟨c0, c1⟩ := two_at hbk5
          have f0 : w5.frozen? ⟨w.heap.size, 0, none⟩ = false := frozen_row hbk5
          have f1 : w5.frozen? ⟨w.heap.size, 1, none⟩ = false := frozen_row hbk5
          have HE2 := Lib.hid hbk5
          clear hbk5
          go_wp2_with fail
          obtain ⟨d0, d1⟩ := two_at (two_cells HE2.out (.int .u64 (n : Int)) (.int .u64 (n2 : Int)))
          exact bodyPost_ret (v := .tuple #[.agg #[.int .u64 (n : Int), .int .u64 (n2 : Int)], .int .i64 0]) (by simp [results, Try.results15, go_sem, d0, d1]) rfl ⟨two_below (Nat.le_refl _) _ _ HB5.out, some (n, n2), .yes n n2 HNN.out.1 HNN.out.2 hq.symm, rfl⟩
        · have hcv := CV1.out
          have hse := HSE.out
          rw [decide_eq_false hq] at hse
          generalize strOfNums (Vt.voteOf n n2) = SV at hcv hse
          have HCV := Lib.hid hcv
          clear hcv CV1 HSE
          refine wpAnyH_sharper (S' := fun W => Below w5.heap.size w5 W) (fun W hW => h5.trans (hW.mono h5.size)) _ _ _ _ ?_
          have hHeld : Below w5.heap.size w5 w5 := Below.refl _ _
          refine wpAnyH_take (i := 5) (oi := ?_) (v := ?_) ?_ (by kernel_rfl) (by kernel_rfl) (by kernel_rfl) ?_ (Or.inl ⟨?_, ?_⟩) (by assumption) ?_
          rotate_left 2
          focus (simp only [List.getElem?_toArray, List.getElem?_cons_succ, List.getElem?_cons_zero]; rfl)
          focus exact fun _ _ _ h => h
          focus rfl
          focus (intro W hS; (try dsimp only at hS); have q := HCV.out W hS; go_simp; (try with_reducible rfl))
          try simp only [Act.put]
          try simp only [List.setIfInBounds_toArray]
          try simp only [List.set_cons_succ]
          try simp only [List.set_cons_zero]
          refine wpAnyH_take (i := 8) (oi := ?_) (v := ?_) ?_ (by kernel_rfl) (by kernel_rfl) (by kernel_rfl) ?_ (Or.inl ⟨?_, ?_⟩) (by assumption) ?_
          rotate_left 2
          focus (simp only [List.getElem?_toArray, List.getElem?_cons_succ, List.getElem?_cons_zero]; rfl)
          focus exact fun _ _ _ h => h
          focus rfl
          focus (intro W hS; (try dsimp only at hS); go_simp; (try with_reducible rfl))
          try simp only [Act.put]
          try simp only [List.setIfInBounds_toArray]
          try simp only [List.set_cons_succ]
          try simp only [List.set_cons_zero]
          refine wpAnyH_take (i := 9) (oi := ?_) (v := ?_) ?_ (by kernel_rfl) (by kernel_rfl) (by kernel_rfl) ?_ (Or.inl ⟨?_, ?_⟩) (by assumption) ?_
          rotate_left 2
          focus (simp only [List.getElem?_toArray, List.getElem?_cons_succ, List.getElem?_cons_zero]; rfl)
          focus exact fun _ _ _ h => h
          focus rfl
          focus (intro W hS; (try dsimp only at hS); go_simp; (try with_reducible rfl))
          try simp only [Act.put]
          try simp only [List.setIfInBounds_toArray]
          try simp only [List.set_cons_succ]
          try simp only [List.set_cons_zero]
          refine wpAnyH_done (by kernel_rfl) ?_ _
          have hbk5 : w5.heap[w.heap.size]? = some zeroP := (h5.block w.heap.size (lt_of_block HBK4.out)).trans HBK4.out
          have HB5 := Lib.hid (HB4.out.trans (h5.mono HB4.out.size))
          clear hse hHeld h5
          obtain ⟨c0, c1⟩ := two_at hbk5
          have f0 : (w5).frozen? ⟨w.heap.size, 0, none⟩ = false := frozen_row hbk5
          have f1 : (w5).frozen? ⟨w.heap.size, 1, none⟩ = false := frozen_row hbk5
          have HE2 := Lib.hid hbk5
          clear hbk5
          go_wp2_with fail
          obtain ⟨d0, d1⟩ := two_at (two_cells HE2.out (.int .u64 0) (.int .u64 0))
          refine bodyPost_ret (v := .tuple #[.agg #[.int .u64 0, .int .u64 0], .int .i64 4]) (by simp [results, Try.results15, go_sem, d0, d1]) rfl ⟨two_below (Nat.le_refl _) _ _ (HB5.out), none, ?_, rfl⟩
          exact Vt.ref_get_no3 HD.out.symm HD1.out.symm HD2.out.symm hq
end Go.Proofs.Ytaljfpkgancidaa

namespace Go.Proofs.Ytaljfpkgancidaa
open Go.RowKit

theorem rec3 (i t n : Nat) : Vt.recOf [i, t, n] = Vt.recOf [i, t] ++ Num.put n := by simp [Vt.recOf]
theorem reads_zero {w : World} (a : Option Addr) : Reads w a [] := Reads.nil w a

set_option maxRecDepth 100000 in
set_option maxHeartbeats 1500000 in
theorem refShot_any (i t : Nat) (a : Option Addr) (c : Nat) (img : List Int) (w : World) (h0 : i < 18446744073709551616) (h1 : t < 18446744073709551616) (hr : Reads w a img) (hl : img.length ≤ 262144) (hc : img.length ≤ c) :
    Calls Try.prog 12 #[.agg #[.int .u64 (i : Int), .int .u64 (t : Int), .slice a img.length c]] w fun e w' => ∃ g cc, e = .returned (.slice (some ⟨g, 0, none⟩) (Vt.shotOf i t img).length cc) ∧ Row w' w.heap.size (Vt.shotOf i t img) (.slice (some ⟨g, 0, none⟩) (Vt.shotOf i t img).length cc) ∧ Below w.heap.size w w' := by
  obtain ⟨i0, hi, hz0, hz1, hz2⟩ := info_parts info5
  obtain ⟨wa, hwa⟩ : ∃ wa, wa = w.alloc (.cells #[.int .u64 (i : Int), .int .u64 (t : Int), .slice a img.length c] 27) := ⟨_, rfl⟩
  have hw1 : Below w.heap.size w wa := by rw [hwa]; exact (Below.refl _ _).alloc (Nat.le_refl _) _
  have hb1 : wa.heap[w.heap.size]? = some (.cells #[.int .u64 (i : Int), .int .u64 (t : Int), .slice a img.length c] 27 (0, 0)) := by rw [hwa]; exact heap_alloc_new _ _
  have HC0 := Lib.hid (show ∀ W, Below wa.heap.size wa W → W.cell? ⟨w.heap.size, 0, none⟩ = some (.int .u64 (i : Int)) from fun W h => by
    rw [cell_of_row W w.heap.size 0 _ _ _ ((h.block w.heap.size (lt_of_block hb1)).trans hb1)]; rfl)
  have HC1 := Lib.hid (show ∀ W, Below wa.heap.size wa W → W.cell? ⟨w.heap.size, 1, none⟩ = some (.int .u64 (t : Int)) from fun W h => by
    rw [cell_of_row W w.heap.size 1 _ _ _ ((h.block w.heap.size (lt_of_block hb1)).trans hb1)]; rfl)
  have HN0 := Lib.hid h0
  have HN1 := Lib.hid h1
  have HW1 := Lib.hid hw1
  have HB1 := Lib.hid hb1
  have HI := Lib.hid hi
  have HZ0 := Lib.hid hz0
  have HZ1 := Lib.hid hz1
  have HZ2 := Lib.hid hz2
  have HWA := Lib.hid hwa
  have HC2 := Lib.hid (show ∀ W, Below wa.heap.size wa W → W.cell? ⟨w.heap.size, 2, none⟩ = some (.slice a img.length c) from fun W h => by
    rw [cell_of_row W w.heap.size 2 _ _ _ ((h.block w.heap.size (lt_of_block hb1)).trans hb1)]; rfl)
  have HRD := Lib.hid hr
  have HL := Lib.hid hl
  clear hi hz0 hz1 hz2 hwa hw1 hb1 h0 h1 hr
  go_enter Try.func12, Try.ntmps12
  go_wp2_with fail
  rw [← HWA.out]
  refine wp_region_held_drew (S := fun W => Below wa.heap.size wa W) (by kernel_rfl) (Below.refl _ _).drew (fun hHeld => ?_)
  refine wpAnyH_take (i := 0) (oi := ?_) (v := ?_) ?_ (by kernel_rfl) (by kernel_rfl) (by kernel_rfl) ?_ (Or.inl ⟨?_, ?_⟩) (by assumption) ?_
  rotate_left 2
  focus (simp only [List.getElem?_toArray, List.getElem?_cons_zero]; rfl)
  focus exact fun _ _ _ h => h
  focus rfl
  focus (intro W hS; (try dsimp only at hS); go_simp; (try with_reducible rfl))
  try simp only [Act.put]
  try simp only [List.setIfInBounds_toArray]
  try simp only [List.set_cons_succ]
  try simp only [List.set_cons_zero]
  refine wpAnyH_take (i := 1) (oi := ?_) (v := ?_) ?_ (by kernel_rfl) (by kernel_rfl) (by kernel_rfl) ?_ (Or.inl ⟨?_, ?_⟩) (by assumption) ?_
  rotate_left 2
  focus (simp only [List.getElem?_toArray, List.getElem?_cons_succ, List.getElem?_cons_zero]; rfl)
  focus exact fun _ _ _ h => h
  focus rfl
  focus (intro W hS; (try dsimp only at hS); have q := HC0.out W hS; go_simp; (try with_reducible rfl))
  try simp only [Act.put]
  try simp only [List.setIfInBounds_toArray]
  try simp only [List.set_cons_succ]
  try simp only [List.set_cons_zero]
  refine wpAnyH_take (i := 3) (oi := ?_) (v := ?_) ?_ (by kernel_rfl) (by kernel_rfl) (by kernel_rfl) ?_ (Or.inl ⟨?_, ?_⟩) (by assumption) ?_
  rotate_left 2
  focus (simp only [List.getElem?_toArray, List.getElem?_cons_succ, List.getElem?_cons_zero]; rfl)
  focus exact fun _ _ _ h => h
  focus rfl
  focus (intro W hS; (try dsimp only at hS); go_simp; (try with_reducible rfl))
  try simp only [Act.put]
  try simp only [List.setIfInBounds_toArray]
  try simp only [List.set_cons_succ]
  try simp only [List.set_cons_zero]
  refine wpAnyH_take (i := 4) (oi := ?_) (v := ?_) ?_ (by kernel_rfl) (by kernel_rfl) (by kernel_rfl) ?_ (Or.inl ⟨?_, ?_⟩) (by assumption) ?_
  rotate_left 2
  focus (simp only [List.getElem?_toArray, List.getElem?_cons_succ, List.getElem?_cons_zero]; rfl)
  focus exact fun _ _ _ h => h
  focus rfl
  focus (intro W hS; (try dsimp only at hS); have q := HC1.out W hS; go_simp; (try with_reducible rfl))
  try simp only [Act.put]
  try simp only [List.setIfInBounds_toArray]
  try simp only [List.set_cons_succ]
  try simp only [List.set_cons_zero]
  refine wpAnyH_ready (rs := [2]) (by kernel_rfl) (by simp) ?_
  refine AllReadyH.cons (o := ?_) ?_ (fun K hK => ?_) AllReadyH.nil
  rotate_left
  focus (simp only [List.getElem?_toArray, List.getElem?_cons_succ, List.getElem?_cons_zero]; rfl)
  rw [if_pos (by rfl)]
  go_simp
  refine (refPut_any 9 i _ (Nat.le_refl _) (Nat.lt_trans HN0.out (by decide)) HN0.out).mono ?_
  rintro r w3 ⟨v3, rfl, hr3, hb3⟩
  have h3 := (Below.refl wa.heap.size wa).drew.trans hb3
  obtain ⟨g3, cap3, rfl, _, _, _, _, _⟩ := hr3.is (put_ne i)
  have HR3 := Lib.hid (show Row w3 wa.heap.size (Num.put i) (.slice (some ⟨g3, 0, none⟩) (Num.put i).length cap3) from hr3)
  clear hr3 hb3
  go_wp2_with fail
  refine hK.out _ _ h3 (fun hHeld => ?_)
  clear hK K
  try simp only [Act.put]
  try simp only [List.setIfInBounds_toArray]
  try simp only [List.set_cons_succ]
  try simp only [List.set_cons_zero]
  refine wpAnyH_ready (rs := [5]) (by kernel_rfl) (by simp) ?_
  refine AllReadyH.cons (o := ?_) ?_ (fun K hK => ?_) AllReadyH.nil
  rotate_left
  focus (simp only [List.getElem?_toArray, List.getElem?_cons_succ, List.getElem?_cons_zero]; rfl)
  rw [if_pos (by rfl)]
  go_simp
  refine (refPut_any 9 t _ (Nat.le_refl _) (Nat.lt_trans HN1.out (by decide)) HN1.out).mono ?_
  rintro r w4 ⟨v4, rfl, hr4, h4⟩
  obtain ⟨g4, cap4, rfl, hg40, _, _, _, _⟩ := hr4.is (put_ne t)
  have HR4 := Lib.hid (show Row w4 w3.heap.size (Num.put t) (.slice (some ⟨g4, 0, none⟩) (Num.put t).length cap4) from hr4)
  have h34 := h3.trans (h4.mono h3.size)
  clear hr4
  go_wp2_with fail
  refine hK.out _ _ h34 (fun hHeld => ?_)
  clear hK K
  try simp only [Act.put]
  try simp only [List.setIfInBounds_toArray]
  try simp only [List.set_cons_succ]
  try simp only [List.set_cons_zero]
  have hl3 := Num.put_len i
  have hl4 := Num.put_len t
  obtain ⟨v5, w5, hrun5, hown5, hgr5, _⟩ := run_append_own (P := Try.prog) w4 wa.heap.size 25 25 5 i0 (.int .u8 0) 1 1 Try.underlying25 HI.out HZ0.out HZ1.out HZ2.out rfl (by decide) _ _ _ (HR3.out.below h4) ⟨g4, 0, none⟩ (Num.put t).length cap4 ((Num.put t).map (Value.int .u8)) (by simp) (HR4.out.news (Below.refl _ _) rfl) (ints_oneCell .u8 _) (by unfold maxLen; omega) (by omega) h34.size
  have h5 : Below wa.heap.size wa w5 := h34.grown hgr5 h34.size (fun k hk => (World.ownsRow.lt HR3.out k hk).1)
  rw [← List.map_append, ← List.length_append, ← rec2] at hown5
  have hrow5 : Row w5 wa.heap.size (Vt.recOf [i, t]) v5 := hown5
  obtain ⟨g5, c5, rfl, _, _, _, _, _⟩ := hrow5.is (rec_ne i [t])
  have HR5 := Lib.hid hrow5
  clear hown5 hgr5 hrow5
  refine wpAnyH_ready (rs := [6]) (by kernel_rfl) (by simp) ?_
  refine AllReadyH.cons (o := ?_) ?_ (fun K hK => ?_) AllReadyH.nil
  rotate_left
  focus (simp only [List.getElem?_toArray, List.getElem?_cons_succ, List.getElem?_cons_zero]; rfl)
  rw [if_pos (by rfl)]
  refine wp_append_run rfl rfl rfl hrun5 ?_
  refine hK.out _ _ h5 (fun hHeld => ?_)
  clear hK K
  clear hrun5
  try simp only [Act.put]
  try simp only [List.setIfInBounds_toArray]
  try simp only [List.set_cons_succ]
  try simp only [List.set_cons_zero]
  refine wpAnyH_take (i := 7) (oi := ?_) (v := ?_) ?_ (by kernel_rfl) (by kernel_rfl) (by kernel_rfl) ?_ (Or.inl ⟨?_, ?_⟩) (by assumption) ?_
  rotate_left 2
  focus (simp only [List.getElem?_toArray, List.getElem?_cons_succ, List.getElem?_cons_zero]; rfl)
  focus exact fun _ _ _ h => h
  focus rfl
  focus (intro W hS; (try dsimp only at hS); go_simp; (try with_reducible rfl))
  try simp only [Act.put]
  try simp only [List.setIfInBounds_toArray]
  try simp only [List.set_cons_succ]
  try simp only [List.set_cons_zero]
  refine wpAnyH_done (by kernel_rfl) ?_ _
  have HR5' := Lib.hid HR5.out
  have H5 := Lib.hid h5
  clear HR3 HR4 h3 h4 h34 hl3 hl4 hg40 hHeld HR5
  have q2 := HC2.out w5 H5.out
  clear h5
  go_wp2_with fail
  refine (refPut_any 9 img.length _ (Nat.le_refl _) (Nat.lt_of_le_of_lt HL.out (by decide)) (by have := HL.out; omega)).mono ?_
  rintro r w6 ⟨v6, rfl, hr6, hb6⟩
  have hr6p : Row w6 w5.heap.size (Num.put img.length) v6 := hr6
  clear hr6
  obtain ⟨g6, cap6, rfl, _, _, _, _, _⟩ := hr6p.is (put_ne img.length)
  have HR6 := Lib.hid (show Row w6 w5.heap.size (Num.put img.length) (.slice (some ⟨g6, 0, none⟩) (Num.put img.length).length cap6) from hr6p)
  have hr56 := HR5'.out.below hb6
  have H6 := Lib.hid (H5.out.trans (hb6.mono H5.out.size))
  have hi := HI.out
  have hz0 := HZ0.out
  have hz1 := HZ1.out
  have hz2 := HZ2.out
  have hsz6 := H6.out.size
  have hpl := Num.put_len img.length
  have hrl := (Vt.recOf_len [i, t]).2
  have HNW := Lib.hid (HR6.out.news (Below.refl _ _) rfl)
  simp only [List.length_cons, List.length_nil, Nat.zero_add, Nat.reduceAdd, Nat.reduceMul] at hrl
  obtain ⟨pl, hple⟩ : ∃ pl, pl = (Num.put img.length).length := ⟨_, rfl⟩
  rw [← hple] at hpl ⊢
  have HPL := Lib.hid hple
  clear hr6p hb6 q2 hple
  go_wp2_with (at_builtin; go_loud (refine wpList_append_own _ rfl _ _ 25 rfl wa.heap.size 5 i0 (.int .u8 0) 1 1 Try.underlying25 hi hz0 hz1 hz2 rfl (by decide) _ _ _ rfl hr56 ⟨g6, 0, none⟩ pl cap6 ((Num.put img.length).map (Value.int .u8)) rfl (by rw [List.length_map, HPL.out]; simp) HNW.out (ints_oneCell .u8 _) (by unfold maxLen; omega) (by omega) hsz6 ?_))
  intro v7 w7 hown hg _
  have hrow7 : Row w7 wa.heap.size (Vt.recOf [i, t, img.length]) v7 := by
    rw [rec3]
    unfold Row
    rw [List.length_append, List.map_append, ← HPL.out]
    exact hown
  have hb7 : Below wa.heap.size wa w7 := H6.out.grown hg hsz6 (fun j e => (World.ownsRow.lt hr56 j e).1)
  obtain ⟨g7, c7, rfl, _, _, _, _, _⟩ := hrow7.is (rec_ne i [t, img.length])
  have hr3l := Vt.rec3_len i t img.length
  have hrr := Vt.recOf_range _ (Vt.small3 (u := img.length) HN0.out HN1.out (by have := HL.out; omega))
  have hH7 := (hrow7.here hrr (by omega)).1
  have HFP := Lib.hid (refFramePut_any (some ⟨g7, 0, none⟩) (Vt.recOf [i, t, img.length]).length c7 (Vt.recOf [i, t, img.length]) w7 rfl hH7.reads (by omega))
  have H7 := Lib.hid hb7
  clear hown hg hrow7 hb7 hr56 hrr hH7 HR6 HNW hi hz0 hz1 hz2 hsz6 hr3l hrl hpl
  go_wp2_with fail
  refine HFP.out.mono ?_
  rintro r w8 ⟨g8, c8, rfl, hr8, hb8⟩
  have HR8 := Lib.hid ((show Row w8 w7.heap.size (Frame.frameOf (Vt.recOf [i, t, img.length])) _ from hr8).less H7.out.size)
  have H8 := Lib.hid (H7.out.trans (hb8.mono H7.out.size))
  obtain ⟨fr, hfr⟩ : ∃ fr, fr = Frame.frameOf (Vt.recOf [i, t, img.length]) := ⟨_, rfl⟩
  rw [← hfr] at HR8 ⊢
  have HFR := Lib.hid hfr
  have q2 := HC2.out w8 H8.out
  clear hr8 hb8 HFP hfr
  go_wp2_with fail
  go_loopw [4, 6] (fun ov bv wr => ∃ (k : Nat) (L : List Int) (A : Option Addr) (C : Nat), k ≤ Vt.count img.length ∧ L = img.drop (4000 * k) ∧ Row wr wa.heap.size (fr ++ Frame.flat ((Vt.parts img).take k)) ov ∧ bv = .slice A L.length C ∧ Reads w A L ∧ L.length ≤ C ∧ Below wa.heap.size wa wr) (fun _ bv _ => sliceLen bv)
  case atStart => exact ⟨0, img, a, c, Nat.zero_le _, by simp, by simpa [Frame.flat] using HR8.out, rfl, HRD.out, hc, H8.out⟩
  case round =>
    clear HR8 H8 q2
    obtain ⟨k, L, A, C, hk, hL, hrow, rfl, hrd, hC, hb⟩ := hrel
    have hLl : L.length = img.length - 4000 * k := by rw [hL, List.length_drop]
    by_cases hz : L.length = 0
    · have hkc : k = Vt.count img.length := by unfold Vt.count at hk ⊢; omega
      have hall : fr ++ Frame.flat ((Vt.parts img).take k) = Vt.shotOf i t img := by
        rw [hkc, ← Vt.parts_len, List.take_length, HFR.out]
        unfold Vt.shotOf
        rw [Vt.flat_cons]
      rw [hall] at hrow
      have hne : Vt.shotOf i t img ≠ [] := by
        rw [← hall, HFR.out]
        intro h
        have h1 := (List.append_eq_nil_iff.1 h).1
        simp [Frame.frameOf] at h1
      obtain ⟨g9, c9, rfl, _, _, _, _, _⟩ := hrow.is hne
      have HROW := Lib.hid (hrow.less HW1.out.size)
      have HB := Lib.hid (HW1.out.trans (hb.mono HW1.out.size))
      obtain ⟨ln, hln⟩ : ∃ ln, ln = L.length := ⟨_, rfl⟩
      rw [← hln] at hz ⊢
      subst hz
      clear hrow hb hall hne hL hLl hrd hC hln
      go_wp2_with fail
      go_ret
      exact ⟨g9, c9, rfl, HROW.out, HB.out⟩
    · have hkc : k < Vt.count img.length := by unfold Vt.count; omega
      have hp : Vt.part img k = L.take 4000 := by rw [hL]; rfl
      have hnext : fr ++ Frame.flat ((Vt.parts img).take (k + 1)) = (fr ++ Frame.flat ((Vt.parts img).take k)) ++ Frame.frameOf (L.take 4000) := by
        have hlt : k < (Vt.parts img).length := by rw [Vt.parts_len]; exact hkc
        have e : (Vt.parts img)[k] = Vt.part img k := by
          have := Vt.parts_at img k hkc
          rw [List.getElem?_eq_getElem hlt] at this
          exact Option.some.inj this
        rw [List.take_succ_eq_append_getElem hlt, Frame.flat_snoc, e, hp, List.append_assoc]
      have hbound : (fr ++ Frame.flat ((Vt.parts img).take k)).length ≤ 300000 := by
        have e1 : (Vt.shotOf i t img).length ≤ 264000 := shot_len HL.out
        have e2 : Vt.shotOf i t img = (fr ++ Frame.flat ((Vt.parts img).take k)) ++ Frame.flat ((Vt.parts img).drop k) := by
          unfold Vt.shotOf
          rw [Vt.flat_cons, ← HFR.out, List.append_assoc]
          have hfa : ∀ a b, Frame.flat (a ++ b) = Frame.flat a ++ Frame.flat b := fun a b => by simp [Frame.flat]
          rw [← hfa, List.take_append_drop]
        rw [e2, List.length_append] at e1
        omega
      have hdrop : ∀ n, L.drop n = img.drop (4000 * k + n) := fun n => by rw [hL, List.drop_drop]
      obtain ⟨acc, hacc⟩ : ∃ acc, acc = fr ++ Frame.flat ((Vt.parts img).take k) := ⟨_, rfl⟩
      rw [← hacc] at hrow hnext hbound
      obtain ⟨oa, oc, rfl⟩ := hrow.shape
      obtain ⟨ol, hol⟩ : ∃ ol, ol = acc.length := ⟨_, rfl⟩
      rw [← hol] at hbound ⊢
      obtain ⟨ll, hll⟩ : ∃ ll, ll = L.length := ⟨_, rfl⟩
      have HLL := Lib.hid hll
      rw [← hll] at hz hC ⊢
      have hl26 : ll ≤ 262144 := by have := HL.out; omega
      have HLI := Lib.hid hLl
      have HKC := Lib.hid hkc
      have HKK := Lib.hid hk
      have hw8 := hb.size
      have hbw := HW1.out.trans (hb.mono HW1.out.size)
      have HRW := Lib.hid (hrd.below hbw)
      have HROW := Lib.hid hrow
      have HB := Lib.hid hb
      have HNX := Lib.hid hnext
      have HOL := Lib.hid hol
      have HRDL := Lib.hid hrd
      have HDR := Lib.hid hdrop
      clear hrow hb hbw hnext hol hrd hL hp hacc hdrop hll hLl hkc hk hl hc
      by_cases h4 : ll < 4000
      · by_cases hcc : C = ll
        · replace hcc := hcc.symm
          subst hcc
          have d1 : decide ((ll : Int) < 4000) = true := by simp; omega
          have HFP := Lib.hid (refFramePut_any A (ll) (ll) (L.take 4000) wr (by rw [List.length_take, ← HLL.out]; omega) (HRW.out.take 4000) (by rw [List.length_take]; omega))
          go_wp2_with fail
          refine HFP.out.mono ?_
          rintro r w9 ⟨fg, fc, rfl, hf9, hb9⟩
          have hfl : (Frame.frameOf (L.take 4000)).length ≤ 4100 := by
            rw [Frame.frame_len, List.length_take]
            have := Num.put_len (L.take 4000).length
            rw [List.length_take] at this
            omega
          have HNW := Lib.hid ((show Row w9 wr.heap.size (Frame.frameOf (L.take 4000)) (.slice (some ⟨fg, 0, none⟩) (Frame.frameOf (L.take 4000)).length fc) from hf9).news (Below.refl _ _) rfl)
          obtain ⟨fl, hfle⟩ : ∃ fl, fl = (Frame.frameOf (L.take 4000)).length := ⟨_, rfl⟩
          rw [← hfle] at hfl ⊢
          have HFL := Lib.hid hfle
          have hr9 : Row w9 wa.heap.size acc _ := HROW.out.below hb9
          have hr9' := hr9
          unfold Row at hr9'
          rw [← HOL.out] at hr9'
          have hb19 := HB.out.trans (hb9.mono HB.out.size)
          have hsz9 := hb19.size
          have H9 := Lib.hid hb19
          clear hf9 hb9 hfle hb19 hr9
          have hi := HI.out
          have hz0 := HZ0.out
          have hz1 := HZ1.out
          have hz2 := HZ2.out
          go_wp2_with (at_builtin; go_loud (refine wpList_append_own _ rfl _ _ 25 rfl wa.heap.size 5 i0 (.int .u8 0) 1 1 Try.underlying25 hi hz0 hz1 hz2 rfl (by decide) _ _ _ rfl hr9' ⟨fg, 0, none⟩ fl fc ((Frame.frameOf (L.take 4000)).map (Value.int .u8)) rfl (by rw [List.length_map, HFL.out]; simp) HNW.out (ints_oneCell .u8 _) (by unfold maxLen; omega) (by omega) hsz9 ?_))
          intro vA wA hown hg _
          have hrA : Row wA wa.heap.size (acc ++ Frame.frameOf (L.take 4000)) vA := by
            unfold Row
            rw [List.length_append, List.map_append, ← HFL.out, ← HOL.out]
            exact hown
          rw [← HNX.out] at hrA
          have hbA : Below wa.heap.size wa wA := H9.out.grown hg hsz9 (fun j e => (World.ownsRow.lt hr9' j e).1)
          have HRA := Lib.hid hrA
          have HBA := Lib.hid hbA
          clear hown hg hrA hbA hr9' hi hz0 hz1 hz2 hsz9
          go_wp2_with fail
          go_roundw
          case rel => exact ⟨k + 1, L.drop (ll), A, 0, (by have := HKC.out; omega), by rw [HDR.out]; exact (by have h1 := HLL.out; have h2 := HLI.out; rw [List.drop_eq_nil_of_le (by omega), List.drop_eq_nil_of_le (by omega)]), HRA.out, by (rw [List.length_drop, ← HLL.out, Nat.sub_self]), HRDL.out.dropAll (by have := HLL.out; omega), by rw [List.length_drop, ← HLL.out]; omega, HBA.out⟩
          case measure =>
            simp only [sliceLen]
            omega
        · have d1 : decide ((ll : Int) < 4000) = true := by simp; omega
          have HFP := Lib.hid (refFramePut_any A (ll) (C) (L.take 4000) wr (by rw [List.length_take, ← HLL.out]; omega) (HRW.out.take 4000) (by rw [List.length_take]; omega))
          go_wp2_with fail
          refine HFP.out.mono ?_
          rintro r w9 ⟨fg, fc, rfl, hf9, hb9⟩
          have hfl : (Frame.frameOf (L.take 4000)).length ≤ 4100 := by
            rw [Frame.frame_len, List.length_take]
            have := Num.put_len (L.take 4000).length
            rw [List.length_take] at this
            omega
          have HNW := Lib.hid ((show Row w9 wr.heap.size (Frame.frameOf (L.take 4000)) (.slice (some ⟨fg, 0, none⟩) (Frame.frameOf (L.take 4000)).length fc) from hf9).news (Below.refl _ _) rfl)
          obtain ⟨fl, hfle⟩ : ∃ fl, fl = (Frame.frameOf (L.take 4000)).length := ⟨_, rfl⟩
          rw [← hfle] at hfl ⊢
          have HFL := Lib.hid hfle
          have hr9 : Row w9 wa.heap.size acc _ := HROW.out.below hb9
          have hr9' := hr9
          unfold Row at hr9'
          rw [← HOL.out] at hr9'
          have hb19 := HB.out.trans (hb9.mono HB.out.size)
          have hsz9 := hb19.size
          have H9 := Lib.hid hb19
          clear hf9 hb9 hfle hb19 hr9
          have hi := HI.out
          have hz0 := HZ0.out
          have hz1 := HZ1.out
          have hz2 := HZ2.out
          go_wp2_with (at_builtin; go_loud (refine wpList_append_own _ rfl _ _ 25 rfl wa.heap.size 5 i0 (.int .u8 0) 1 1 Try.underlying25 hi hz0 hz1 hz2 rfl (by decide) _ _ _ rfl hr9' ⟨fg, 0, none⟩ fl fc ((Frame.frameOf (L.take 4000)).map (Value.int .u8)) rfl (by rw [List.length_map, HFL.out]; simp) HNW.out (ints_oneCell .u8 _) (by unfold maxLen; omega) (by omega) hsz9 ?_))
          intro vA wA hown hg _
          have hrA : Row wA wa.heap.size (acc ++ Frame.frameOf (L.take 4000)) vA := by
            unfold Row
            rw [List.length_append, List.map_append, ← HFL.out, ← HOL.out]
            exact hown
          rw [← HNX.out] at hrA
          have hbA : Below wa.heap.size wa wA := H9.out.grown hg hsz9 (fun j e => (World.ownsRow.lt hr9' j e).1)
          have HRA := Lib.hid hrA
          have HBA := Lib.hid hbA
          clear hown hg hrA hbA hr9' hi hz0 hz1 hz2 hsz9
          go_wp2_with fail
          go_roundw
          case rel => exact ⟨k + 1, L.drop (ll), (Option.map (fun x => x.add ll) A), (C - ll), (by have := HKC.out; omega), by rw [HDR.out]; exact (by have h1 := HLL.out; have h2 := HLI.out; rw [List.drop_eq_nil_of_le (by omega), List.drop_eq_nil_of_le (by omega)]), HRA.out, by (rw [List.length_drop, ← HLL.out, Nat.sub_self]), HRDL.out.drop _, by rw [List.length_drop, ← HLL.out]; omega, HBA.out⟩
          case measure =>
            simp only [sliceLen]
            omega
      · by_cases hcc : C = 4000
        · subst hcc
          have d1 : decide ((ll : Int) < 4000) = false := by simp; omega
          have HFP := Lib.hid (refFramePut_any A (4000) (4000) (L.take 4000) wr (by rw [List.length_take, ← HLL.out]; omega) (HRW.out.take 4000) (by rw [List.length_take]; omega))
          go_wp2_with fail
          refine HFP.out.mono ?_
          rintro r w9 ⟨fg, fc, rfl, hf9, hb9⟩
          have hfl : (Frame.frameOf (L.take 4000)).length ≤ 4100 := by
            rw [Frame.frame_len, List.length_take]
            have := Num.put_len (L.take 4000).length
            rw [List.length_take] at this
            omega
          have HNW := Lib.hid ((show Row w9 wr.heap.size (Frame.frameOf (L.take 4000)) (.slice (some ⟨fg, 0, none⟩) (Frame.frameOf (L.take 4000)).length fc) from hf9).news (Below.refl _ _) rfl)
          obtain ⟨fl, hfle⟩ : ∃ fl, fl = (Frame.frameOf (L.take 4000)).length := ⟨_, rfl⟩
          rw [← hfle] at hfl ⊢
          have HFL := Lib.hid hfle
          have hr9 : Row w9 wa.heap.size acc _ := HROW.out.below hb9
          have hr9' := hr9
          unfold Row at hr9'
          rw [← HOL.out] at hr9'
          have hb19 := HB.out.trans (hb9.mono HB.out.size)
          have hsz9 := hb19.size
          have H9 := Lib.hid hb19
          clear hf9 hb9 hfle hb19 hr9
          have hi := HI.out
          have hz0 := HZ0.out
          have hz1 := HZ1.out
          have hz2 := HZ2.out
          go_wp2_with (at_builtin; go_loud (refine wpList_append_own _ rfl _ _ 25 rfl wa.heap.size 5 i0 (.int .u8 0) 1 1 Try.underlying25 hi hz0 hz1 hz2 rfl (by decide) _ _ _ rfl hr9' ⟨fg, 0, none⟩ fl fc ((Frame.frameOf (L.take 4000)).map (Value.int .u8)) rfl (by rw [List.length_map, HFL.out]; simp) HNW.out (ints_oneCell .u8 _) (by unfold maxLen; omega) (by omega) hsz9 ?_))
          intro vA wA hown hg _
          have hrA : Row wA wa.heap.size (acc ++ Frame.frameOf (L.take 4000)) vA := by
            unfold Row
            rw [List.length_append, List.map_append, ← HFL.out, ← HOL.out]
            exact hown
          rw [← HNX.out] at hrA
          have hbA : Below wa.heap.size wa wA := H9.out.grown hg hsz9 (fun j e => (World.ownsRow.lt hr9' j e).1)
          have HRA := Lib.hid hrA
          have HBA := Lib.hid hbA
          clear hown hg hrA hbA hr9' hi hz0 hz1 hz2 hsz9
          go_wp2_with fail
          go_roundw
          case rel => exact ⟨k + 1, L.drop (4000), A, 0, (by have := HKC.out; omega), by rw [HDR.out]; congr 1, HRA.out, by (rw [List.length_drop, ← HLL.out, show ll - 4000 = 0 by omega]), HRDL.out.dropAll (by have := HLL.out; omega), by rw [List.length_drop, ← HLL.out]; omega, HBA.out⟩
          case measure =>
            simp only [sliceLen]
            omega
        · have d1 : decide ((ll : Int) < 4000) = false := by simp; omega
          have HFP := Lib.hid (refFramePut_any A (4000) (C) (L.take 4000) wr (by rw [List.length_take, ← HLL.out]; omega) (HRW.out.take 4000) (by rw [List.length_take]; omega))
          go_wp2_with fail
          refine HFP.out.mono ?_
          rintro r w9 ⟨fg, fc, rfl, hf9, hb9⟩
          have hfl : (Frame.frameOf (L.take 4000)).length ≤ 4100 := by
            rw [Frame.frame_len, List.length_take]
            have := Num.put_len (L.take 4000).length
            rw [List.length_take] at this
            omega
          have HNW := Lib.hid ((show Row w9 wr.heap.size (Frame.frameOf (L.take 4000)) (.slice (some ⟨fg, 0, none⟩) (Frame.frameOf (L.take 4000)).length fc) from hf9).news (Below.refl _ _) rfl)
          obtain ⟨fl, hfle⟩ : ∃ fl, fl = (Frame.frameOf (L.take 4000)).length := ⟨_, rfl⟩
          rw [← hfle] at hfl ⊢
          have HFL := Lib.hid hfle
          have hr9 : Row w9 wa.heap.size acc _ := HROW.out.below hb9
          have hr9' := hr9
          unfold Row at hr9'
          rw [← HOL.out] at hr9'
          have hb19 := HB.out.trans (hb9.mono HB.out.size)
          have hsz9 := hb19.size
          have H9 := Lib.hid hb19
          clear hf9 hb9 hfle hb19 hr9
          have hi := HI.out
          have hz0 := HZ0.out
          have hz1 := HZ1.out
          have hz2 := HZ2.out
          go_wp2_with (at_builtin; go_loud (refine wpList_append_own _ rfl _ _ 25 rfl wa.heap.size 5 i0 (.int .u8 0) 1 1 Try.underlying25 hi hz0 hz1 hz2 rfl (by decide) _ _ _ rfl hr9' ⟨fg, 0, none⟩ fl fc ((Frame.frameOf (L.take 4000)).map (Value.int .u8)) rfl (by rw [List.length_map, HFL.out]; simp) HNW.out (ints_oneCell .u8 _) (by unfold maxLen; omega) (by omega) hsz9 ?_))
          intro vA wA hown hg _
          have hrA : Row wA wa.heap.size (acc ++ Frame.frameOf (L.take 4000)) vA := by
            unfold Row
            rw [List.length_append, List.map_append, ← HFL.out, ← HOL.out]
            exact hown
          rw [← HNX.out] at hrA
          have hbA : Below wa.heap.size wa wA := H9.out.grown hg hsz9 (fun j e => (World.ownsRow.lt hr9' j e).1)
          have HRA := Lib.hid hrA
          have HBA := Lib.hid hbA
          clear hown hg hrA hbA hr9' hi hz0 hz1 hz2 hsz9
          go_wp2_with fail
          go_roundw
          case rel => exact ⟨k + 1, L.drop (4000), (Option.map (fun x => x.add 4000) A), (C - 4000), (by have := HKC.out; omega), by rw [HDR.out]; congr 1, HRA.out, by (rw [List.length_drop, ← HLL.out]; cases A <;> simp [Addr.add]), HRDL.out.drop _, by rw [List.length_drop, ← HLL.out]; omega, HBA.out⟩
          case measure =>
            simp only [sliceLen]
            omega

end Go.Proofs.Ytaljfpkgancidaa

namespace Go.Proofs.Ytaljfpkgancidaa
open Go.RowKit

/-- the records behind the first one, as far as the j-th -/
def imgOf (xs : List Rec) (j : Nat) : List Int := ((xs.map Rec.zs).take j).tail.flatten
theorem imgOf_one (xs : List Rec) : imgOf xs 1 = [] := by
  cases xs <;> simp [imgOf]
theorem imgOf_next (xs : List Rec) (j : Nat) (h : j < xs.length) (hj : 1 ≤ j) : imgOf xs (j + 1) = imgOf xs j ++ xs[j].zs := by
  have hl : j < (xs.map Rec.zs).length := by simpa using h
  unfold imgOf
  rw [List.take_succ_eq_append_getElem hl, List.tail_append_of_ne_nil (by
    intro e
    have := congrArg List.length e
    rw [List.length_take, List.length_nil] at this
    omega)]
  simp
theorem imgOf_all (x : Rec) (xs : List Rec) : imgOf (x :: xs) (x :: xs).length = (xs.map Rec.zs).flatten := by
  unfold imgOf
  rw [List.take_of_length_le (by simp)]
  simp
theorem OnlyR.setAny (R i : Nat) (W : World) (v : Value) : OnlyR R W (W.setCell ⟨R, i, none⟩ v) := ⟨rfl, rfl, rfl, by simp [World.setCell], fun j hj => Below.heap_setCell _ _ _ _ hj⟩
theorem flat_ge : ∀ ls : List (List Int), ls.flatten.length ≤ (Frame.flat ls).length
  | [] => by simp
  | z :: ls => by
    have h1 := flat_ge ls
    rw [Vt.flat_cons, List.length_append, Frame.frame_len, List.flatten_cons, List.length_append]
    omega
theorem img_le {bs : List Int} {l : List (List Int)} {g : Nat} (hs : Frame.Scans bs l g) (hr : ∀ x ∈ bs, 0 ≤ x ∧ x ≤ 255) : l.flatten.length ≤ bs.length := by
  have h1 := (Vt.Scans.is hs hr).1
  have h2 := flat_ge l
  rw [← h1, List.length_take] at h2
  omega

set_option maxRecDepth 100000 in
set_option maxHeartbeats 2000000 in
theorem refKept_any (a : Option Addr) (len cap : Nat) (bs : List Int) (w : World) (hz : len = bs.length) (hp : Reads w a bs) (hl : bs.length ≤ 200000) (hcap : len ≤ cap) (hcm : cap ≤ 9223372036854775807) :
    Calls Try.prog 17 #[.slice a len cap] w fun e w' => Below w.heap.size w w' ∧ ∃ r, Vt.KeptIs bs r ∧ KeptV w w' e r := by
  obtain ⟨i0, hi, hz0, hz1, hz2⟩ := info_parts info5
  have HI := Lib.hid hi
  have HZ0 := Lib.hid hz0
  have HZ1 := Lib.hid hz1
  have HZ2 := Lib.hid hz2
  clear hi hz0 hz1 hz2
  have hb1 : Below w.heap.size w (w.alloc zeroS) := (Below.refl _ _).alloc (Nat.le_refl _) _
  have HF := Lib.hid (refScan_any a len cap bs _ hz (hp.below hb1) (by omega) hcap hcm)
  have hbk : (w.alloc zeroS).heap[w.heap.size]? = some zeroS := heap_alloc_new w _
  have HBK := Lib.hid hbk
  have HB1 := Lib.hid hb1
  have HP := Lib.hid hp
  have HZ := Lib.hid hz
  clear hb1 hbk hp hz
  go_enter Try.func17, Try.ntmps17
  go_wp2_with fail
  refine HF.out.mono ?_
  rintro e w1 ⟨xs, v, gd, rfl, hsc⟩
  obtain ⟨va, vc, rfl, _⟩ := hsc.slices
  have hbk1 := (hsc.below.block w.heap.size (by simp)).trans HBK.out
  have HB2 := Lib.hid (HB1.out.trans (hsc.below.mono HB1.out.size))
  have hxl := (hsc.scans.le HP.out.hr).2
  have hgl := (hsc.scans.le HP.out.hr).1
  rw [List.length_map] at hxl
  have hxl2 : xs.length ≤ 200000 := by omega
  have HSN := Lib.hid hsc.scans
  have HROW := Lib.hid hsc.row
  have HHERE := Lib.hid hsc.here
  clear hsc HF hxl hgl
  cases xs with
  | nil =>
    simp only [List.length_nil]
    obtain ⟨c0, c1, c2⟩ := three_at hbk1
    have f0 : (w1).frozen? ⟨w.heap.size, 0, none⟩ = false := frozen_row hbk1
    have f1 : (w1).frozen? ⟨w.heap.size, 1, none⟩ = false := frozen_row hbk1
    have f2 : (w1).frozen? ⟨w.heap.size, 2, none⟩ = false := frozen_row hbk1
    have HE2 := Lib.hid hbk1
    clear hbk1
    go_wp2_with fail
    obtain ⟨d0, d1, d2⟩ := three_at (three_cells HE2.out (.int .u64 0) (.int .u64 0) (.slice none 0 0))
    refine bodyPost_ret (v := .tuple #[zeroSV, .int .i64 4]) (by simp [results, Try.results17, go_sem, d0, d1, d2]) rfl ⟨three_below (Nat.le_refl _) _ _ _ (HB2.out), none, ?_, rfl⟩
    exact Vt.ref_kept_nil HSN.out
  | cons x0 xr =>
    have hne : va ≠ none := fun h => by
      subst h
      rcases HROW.out.2 with ⟨he, h0⟩ | ⟨g, _, _, he, _⟩
      · simp at h0
      · cases he
    obtain ⟨vg, rfl⟩ : ∃ vg, va = some ⟨vg, 0, none⟩ := by
      rcases HROW.out.2 with ⟨he, h0⟩ | ⟨g, _, _, he, _⟩
      · simp at h0
      · cases he; exact ⟨g, rfl⟩
    have HCELL := Lib.hid (fun i (hi : i < (x0 :: xr).length) => (show w1.cell? ⟨vg, i, none⟩ = some (Rec.val ((x0 :: xr)[i])) by
      rw [HROW.out.cellAt i (by omega), List.getElem?_map, List.getElem?_eq_getElem hi]; rfl))
    have hcell0 : w1.cell? ⟨vg, 0, none⟩ = some (.slice (some ⟨x0.g, 0, none⟩) x0.zs.length x0.c) := HCELL.out 0 (by simp)
    obtain ⟨hh0, hg0, hc0⟩ := HHERE.out x0 (by simp)
    have hz0 : x0.zs.length ≤ 4096 := (Vt.Scans.is HSN.out HP.out.hr).2.1 _ (by simp)
    have HDL := Lib.hid (fun n j h => Num.dec_lt 10 0 0 x0.zs n j (by omega) (by simp) hh0.hr h)
    have HT := Lib.hid (refTake2_any (some ⟨x0.g, 0, none⟩) x0.zs.length x0.c 0 x0.zs w1 hh0.reads rfl (by omega) (by omega) hc0)
    rw [show ((0 : Nat) : Int) = 0 from rfl, List.drop_zero] at HT
    have HBK1 := Lib.hid hbk1
    have HH0 := Lib.hid hh0
    obtain ⟨D1, hD1⟩ : ∃ D1, D1 = Num.dec 10 0 0 x0.zs := ⟨_, rfl⟩
    rw [← hD1] at HT
    have HD1 := Lib.hid hD1
    obtain ⟨xl, hxle⟩ : ∃ xl, xl = (x0 :: xr).length := ⟨_, rfl⟩
    have hxl1 : 1 ≤ xl ∧ xl ≤ 200000 := by rw [hxle]; exact ⟨by simp, hxl2⟩
    rw [← hxle]
    have HXL := Lib.hid hxle
    clear hbk1 hh0 hD1 hne hxle hxl2
    go_wp2_with fail
    refine HT.out.mono ?_
    intro e w2 ht
    clear HT
    cases D1 with
    | none =>
      obtain ⟨rfl, hb3⟩ := ht
      have hbk2 := (hb3.block w.heap.size (lt_of_block HBK1.out)).trans HBK1.out
      have HB3 := Lib.hid (HB2.out.trans (hb3.mono HB2.out.size))
      clear hb3 hcell0
      obtain ⟨c0, c1, c2⟩ := three_at hbk2
      have f0 : (w2).frozen? ⟨w.heap.size, 0, none⟩ = false := frozen_row hbk2
      have f1 : (w2).frozen? ⟨w.heap.size, 1, none⟩ = false := frozen_row hbk2
      have f2 : (w2).frozen? ⟨w.heap.size, 2, none⟩ = false := frozen_row hbk2
      have HE2 := Lib.hid hbk2
      clear hbk2
      go_wp2_with fail
      obtain ⟨d0, d1, d2⟩ := three_at (three_cells HE2.out (.int .u64 0) (.int .u64 0) (.slice none 0 0))
      refine bodyPost_ret (v := .tuple #[zeroSV, .int .i64 4]) (by simp [results, Try.results17, go_sem, d0, d1, d2]) rfl ⟨three_below (Nat.le_refl _) _ _ _ (HB3.out), none, ?_, rfl⟩
      exact Vt.ref_kept_no1 HSN.out HD1.out.symm
    | some nk =>
      obtain ⟨n, k⟩ := nk
      obtain ⟨he, hb3⟩ := ht
      rw [show ((0 : Nat) : Int) + (k : Int) = (k : Int) by omega] at he
      subst he
      obtain ⟨hn, hk0, hk⟩ := HDL.out n k HD1.out.symm
      have hbk2 := (hb3.block w.heap.size (lt_of_block HBK1.out)).trans HBK1.out
      have HB3 := Lib.hid (HB2.out.trans (hb3.mono HB2.out.size))
      have hcell2 : w2.cell? ⟨vg, 0, none⟩ = some (.slice (some ⟨x0.g, 0, none⟩) x0.zs.length x0.c) := (hb3.cell (World.block_lt_of_cell? w1 _ hcell0)).trans hcell0
      have HT := Lib.hid (refTake2_any (some ⟨x0.g, 0, none⟩) x0.zs.length x0.c k x0.zs w2 (HH0.out.below hb3).reads rfl (by omega) (by omega) hc0)
      have HBK2 := Lib.hid hbk2
      have HN := Lib.hid hn
      have HB12 := Lib.hid hb3
      obtain ⟨D2, hD2⟩ : ∃ D2, D2 = Num.dec 10 0 0 (x0.zs.drop k) := ⟨_, rfl⟩
      rw [← hD2] at HT
      have HD2 := Lib.hid hD2
      clear hb3 hbk2 hD2 hn hcell0
      go_wp2_with fail
      refine HT.out.mono ?_
      intro e w3 ht
      clear HT
      have hkey : ∃ (t er nx : Nat), e = .returned (.tuple #[.int .u64 (t : Int), .int .i64 (nx : Int), .int .i64 (er : Int)]) ∧ Below w2.heap.size w2 w3 ∧ ((D2 = none ∧ er = 4) ∨ ∃ q, D2 = some (t, q) ∧ er = 0 ∧ t < 18446744073709551616) := by
        cases D2 with
        | none =>
          obtain ⟨rfl, hb⟩ := ht
          exact ⟨0, 4, 0, rfl, hb, .inl ⟨rfl, rfl⟩⟩
        | some nk2 =>
          obtain ⟨t, q⟩ := nk2
          obtain ⟨rfl, hb⟩ := ht
          have h2 := Vt.ref_get_yes HH0.out.hr HD1.out.symm HD2.out.symm
          exact ⟨t, 0, k + q, by simp, hb, .inr ⟨q, rfl, rfl, h2.2⟩⟩
      obtain ⟨t, er, nx, rfl, hb4, hcase⟩ := hkey
      have HCASE := Lib.hid hcase
      have hbk3 := (hb4.block w.heap.size (lt_of_block HBK2.out)).trans HBK2.out
      have hw3lt : w.heap.size < w3.heap.size := lt_of_block hbk3
      have hb34 := HB3.out.trans (hb4.mono HB3.out.size)
      obtain ⟨wa, hwa⟩ : ∃ wa, wa = w3.alloc (.cells #[.int .u64 (n : Int), .int .u64 (t : Int), .slice none 0 0] 27) := ⟨_, rfl⟩
      have hal : Below w3.heap.size w3 wa := by rw [hwa]; exact (Below.refl _ _).alloc (Nat.le_refl _) _
      have hsb : wa.heap[w3.heap.size]? = some (.cells #[.int .u64 (n : Int), .int .u64 (t : Int), .slice none 0 0] 27 (0, 0)) := by rw [hwa]; exact heap_alloc_new _ _
      have HBK4 := Lib.hid ((hal.block _ (lt_of_block hbk3)).trans hbk3)
      have HB4 := Lib.hid (hb34.trans (hal.mono hb34.size))
      have hb1a : Below w1.heap.size w1 wa := (HB12.out.trans (hb4.mono HB12.out.size)).trans (hal.mono (Nat.le_trans HB12.out.size hb4.size))
      have HB1A := Lib.hid hb1a
      have HSB := Lib.hid hsb
      have hwas : w3.heap.size < wa.heap.size := lt_of_block hsb
      have hw13 : w1.heap.size ≤ w3.heap.size := Nat.le_trans HB12.out.size hb4.size
      have HCA := Lib.hid (fun i (hi : i < (x0 :: xr).length) => (hb1a.cell (World.block_lt_of_cell? w1 _ (HCELL.out i hi))).trans (HCELL.out i hi))
      have HWA := Lib.hid hwa
      clear ht hcase hbk3 hb34 hal hsb hb1a hb4 hwa hcell2 HCELL
      go_wp2_with fail
      rw [← HWA.out]
      go_loopw [12] (fun iv wr => ∃ (j : Nat) (iva : Option Addr) (ivc : Nat), 1 ≤ j ∧ j ≤ xl ∧ iv = .int .i64 (j : Int) ∧ wr.heap[w3.heap.size]? = some (.cells #[.int .u64 (n : Int), .int .u64 (t : Int), .slice iva (imgOf (x0 :: xr) j).length ivc] 27 (0, 0)) ∧ Row wr wa.heap.size (imgOf (x0 :: xr) j) (.slice iva (imgOf (x0 :: xr) j).length ivc) ∧ LeftR w3.heap.size wa wr) (fun iv _ => xl - (intOf iv).toNat)
      case atStart => exact ⟨1, none, 0, Nat.le_refl _, hxl1.1, rfl, by rw [imgOf_one]; exact HSB.out, by rw [imgOf_one]; exact World.ownsRow_nil _ _ _ _, LeftR.refl _ _⟩
      case round =>
        obtain ⟨j, iva, ivc, hj1, hjl, rfl, hsb, hrow, hlr⟩ := hrel
        obtain ⟨il, hil⟩ : ∃ il, il = (imgOf (x0 :: xr) j).length := ⟨_, rfl⟩
        have hsz := hlr.size
        have hflat : (imgOf (x0 :: xr) j).length ≤ 200000 := by
          have h1 := img_le HSN.out HP.out.hr
          have h2 : (imgOf (x0 :: xr) j).length ≤ ((x0 :: xr).map Rec.zs).flatten.length := by
            have e := List.take_append_drop j ((x0 :: xr).map Rec.zs)
            have e2 : (((x0 :: xr).map Rec.zs).take j).flatten.length ≤ ((x0 :: xr).map Rec.zs).flatten.length := by
              conv => rhs; rw [← e]
              rw [List.flatten_append, List.length_append]
              omega
            unfold imgOf
            refine Nat.le_trans ?_ e2
            cases h : ((x0 :: xr).map Rec.zs).take j with
            | nil => simp
            | cons z r => simp
          omega
        rw [← hil] at hflat hsb
        have HIL := Lib.hid hil
        by_cases hlt : j < xl
        · have hjx : j < (x0 :: xr).length := by rw [← HXL.out]; exact hlt
          have hca := HCA.out j hjx
          obtain ⟨hhj, hgj, hcj⟩ := HHERE.out _ (List.getElem_mem hjx)
          have hnx := imgOf_next (x0 :: xr) j hjx hj1
          obtain ⟨xj, hxj⟩ : ∃ xj, xj = (x0 :: xr)[j] := ⟨_, rfl⟩
          rw [← hxj] at hca hhj hgj hcj hnx
          have hzj : xj.zs.length ≤ 4096 := (Vt.Scans.is HSN.out HP.out.hr).2.1 _ (List.mem_map.2 ⟨xj, by rw [hxj]; exact List.getElem_mem hjx, rfl⟩)
          have hvlt := World.block_lt_of_cell? w1 ⟨vg, 0, none⟩ (u := Rec.val x0) (by
            rw [HROW.out.cellAt 0 (by simp)]; rfl)
          have hcr : wr.cell? ⟨vg, j, none⟩ = some (.slice (some ⟨xj.g, 0, none⟩) xj.zs.length xj.c) := by
            have hb : wr.heap[vg]? = wa.heap[vg]? := hlr.block vg (World.block_lt_of_cell? wa ⟨vg, j, none⟩ hca) (by have : vg < w1.heap.size := hvlt; omega)
            rw [show wr.cell? ⟨vg, j, none⟩ = wa.cell? ⟨vg, j, none⟩ by simp only [World.cell?, hb]]
            exact hca
          have hgl := hhj.lt
          have hHr : Here wr xj.g xj.zs := hhj.other ((hlr.block xj.g (Nat.lt_of_lt_of_le hgl HB1A.out.size) (by omega)).trans (HB1A.out.block xj.g hgl))
          obtain ⟨s0, s1, s2⟩ := three_at hsb
          have HSBR := Lib.hid hsb
          have HLR := Lib.hid hlr
          have HRW := Lib.hid hrow
          have HNW := Lib.hid (reads_news hHr.reads)
          have HNX := Lib.hid hnx
          have hsn : (Value.slice iva il ivc).ownBlock ≠ some w3.heap.size := fun e => by
            have := (World.ownsRow.lt hrow w3.heap.size (by rw [← hil]; exact e)).1
            omega
          have HSNE := Lib.hid hsn
          have hrow' := hrow
          unfold Row at hrow'
          rw [← hil] at hrow'
          have hi := HI.out
          obtain ⟨v5, w5, hrun5, hown5, hgr5⟩ := run_append_any (P := Try.prog) wr.drew wa.heap.size 25 25 5 i0 (.int .u8 0) 1 Try.underlying25 HI.out HZ0.out HZ1.out HZ2.out rfl _ _ _ (show wr.drew.ownsRow wa.heap.size 5 1 (.slice iva il ivc) il _ from hrow') (some ⟨xj.g, 0, none⟩) xj.zs.length xj.c (xj.zs.map (Value.int .u8)) (by simp) (fun e => by cases e) HNW.out (ints_oneCell .u8 _) (by unfold maxLen; omega) (by omega) (by show _ ≤ wr.heap.size; omega)
          obtain ⟨v5a, v5c, rfl, _⟩ := slice_shape hown5
          have hr5 : Row w5 wa.heap.size (imgOf (x0 :: xr) (j + 1)) (.slice v5a (il + xj.zs.length) v5c) := by
            rw [HNX.out]
            unfold Row
            rw [List.length_append, List.map_append, ← HIL.out]
            exact hown5
          have hsb5 : w5.heap[w3.heap.size]? = some (.cells #[.int .u64 (n : Int), .int .u64 (t : Int), .slice iva il ivc] 27 (0, 0)) := (hgr5.block w3.heap.size (by show _ < wr.heap.size; omega) (fun e => HSNE.out e.symm)).trans HSBR.out
          have hgr5b : ∀ q, q < wr.heap.size → q < wa.heap.size → w5.heap[q]? = wr.heap[q]? := fun q h1 h2 => hgr5.block q h1 (fun e => by have := (World.ownsRow.lt hrow' q e.symm).1; omega)
          have hlr5 : LeftR w3.heap.size wa w5 := (show LeftR w3.heap.size wa wr.drew from ⟨HLR.out.os, HLR.out.tape, HLR.out.output, HLR.out.size, HLR.out.block⟩).grown hgr5 (fun k e => (World.ownsRow.lt hrow' k e).1)
          have HR5 := Lib.hid hr5
          have HLR5 := Lib.hid hlr5
          clear hsb hrow hlr hnx hHr hhj hca hi hsn hown5 hgr5 hr5 hlr5 hrow' hgj hcj hxj hjx hil
          go_wp2_with fail
          have hvg : vg < w1.heap.size := hvlt
          have hcr5 : w5.cell? ⟨vg, j, none⟩ = some (.slice (some ⟨xj.g, 0, none⟩) xj.zs.length xj.c) := by
            have hb : w5.heap[vg]? = wr.heap[vg]? := hgr5b vg (by omega) (by omega)
            rw [show w5.cell? ⟨vg, j, none⟩ = wr.cell? ⟨vg, j, none⟩ by simp only [World.cell?, hb]]
            exact hcr
          have hcr6 : (w5.setCell ⟨w3.heap.size, 2, none⟩ (.slice v5a (il + xj.zs.length) v5c)).cell? ⟨vg, j, none⟩ = some (.slice (some ⟨xj.g, 0, none⟩) xj.zs.length xj.c) := by
            have hb : (w5.setCell ⟨w3.heap.size, 2, none⟩ (.slice v5a (il + xj.zs.length) v5c)).heap[vg]? = w5.heap[vg]? := Below.heap_setCell _ _ _ _ (by show vg ≠ w3.heap.size; omega)
            rw [show (w5.setCell ⟨w3.heap.size, 2, none⟩ (.slice v5a (il + xj.zs.length) v5c)).cell? ⟨vg, j, none⟩ = w5.cell? ⟨vg, j, none⟩ by simp only [World.cell?, hb]]
            exact hcr5
          have s2d : wr.drew.cell? ⟨w3.heap.size, 2, none⟩ = some (.slice iva il ivc) := s2
          obtain ⟨p0, p1, p2⟩ := three_at hsb5
          have pf : w5.frozen? ⟨w3.heap.size, 2, none⟩ = false := frozen_row hsb5
          refine wp_region_held_drew (S := (fun W => W.cell? ⟨vg, j, none⟩ = some (.slice (some ⟨xj.g, 0, none⟩) xj.zs.length xj.c))) (by kernel_rfl) hcr (fun hHeld => ?_)
          refine wpAnyH_take (i := 0) (oi := ?_) (v := ?_) ?_ (by kernel_rfl) (by kernel_rfl) (by kernel_rfl) ?_ (Or.inl ⟨?_, ?_⟩) (by assumption) ?_
          rotate_left 2
          focus (simp only [List.getElem?_toArray, List.getElem?_cons_zero]; rfl)
          focus exact fun _ _ _ h => h
          focus rfl
          focus (intro W hS; (try dsimp only at hS); go_simp; (try with_reducible rfl))
          try simp only [Act.put]
          try simp only [List.setIfInBounds_toArray]
          try simp only [List.set_cons_succ]
          try simp only [List.set_cons_zero]
          refine wpAnyH_take (i := 2) (oi := ?_) (v := ?_) ?_ (by kernel_rfl) (by kernel_rfl) (by kernel_rfl) ?_ (Or.inl ⟨?_, ?_⟩) (by assumption) ?_
          rotate_left 2
          focus (simp only [List.getElem?_toArray, List.getElem?_cons_succ, List.getElem?_cons_zero]; rfl)
          focus exact fun _ _ _ h => h
          focus rfl
          focus (intro W hS; (try dsimp only at hS); go_simp; (try with_reducible rfl))
          try simp only [Act.put]
          try simp only [List.setIfInBounds_toArray]
          try simp only [List.set_cons_succ]
          try simp only [List.set_cons_zero]
          refine wpAnyH_take (i := 3) (oi := ?_) (v := ?_) ?_ (by kernel_rfl) (by kernel_rfl) (by kernel_rfl) ?_ (Or.inl ⟨?_, ?_⟩) (by assumption) ?_
          rotate_left 2
          focus (simp only [List.getElem?_toArray, List.getElem?_cons_succ, List.getElem?_cons_zero]; rfl)
          focus exact fun _ _ _ h => h
          focus rfl
          focus (intro W hS; (try dsimp only at hS); go_simp; (try with_reducible rfl))
          try simp only [Act.put]
          try simp only [List.setIfInBounds_toArray]
          try simp only [List.set_cons_succ]
          try simp only [List.set_cons_zero]
          refine wpAnyH_take (i := 4) (oi := ?_) (v := ?_) ?_ (by kernel_rfl) (by kernel_rfl) (by kernel_rfl) ?_ (Or.inl ⟨?_, ?_⟩) (by assumption) ?_
          rotate_left 2
          focus (simp only [List.getElem?_toArray, List.getElem?_cons_succ, List.getElem?_cons_zero]; rfl)
          focus exact fun _ _ _ h => h
          focus rfl
          focus (intro W hS; (try dsimp only at hS); go_simp; (try with_reducible rfl))
          try simp only [Act.put]
          try simp only [List.setIfInBounds_toArray]
          try simp only [List.set_cons_succ]
          try simp only [List.set_cons_zero]
          refine wpAnyH_ready (rs := [1, 5]) (by kernel_rfl) (by simp) ?_
          refine AllReadyH.cons (o := ?oa) ?ha (fun K hK => ?sa) (AllReadyH.cons (o := ?ob) ?hb (fun K hK => ?sb) AllReadyH.nil)
          case ha => simp only [List.getElem?_toArray, List.getElem?_cons_succ, List.getElem?_cons_zero]; rfl
          case hb => simp only [List.getElem?_toArray, List.getElem?_cons_succ, List.getElem?_cons_zero]; rfl
          case sa =>
            rw [if_pos (by rfl)]
            have hcrd : wr.drew.cell? ⟨vg, j, none⟩ = some (.slice (some ⟨xj.g, 0, none⟩) xj.zs.length xj.c) := hcr
            go_simp
            refine hK.out _ _ hcr (fun hHeld => ?_)
            clear hK K
            try simp only [Act.put]
            try simp only [List.setIfInBounds_toArray]
            try simp only [List.set_cons_succ]
            try simp only [List.set_cons_zero]
            refine wpAnyH_ready (rs := [5]) (by kernel_rfl) (by simp) ?_
            refine AllReadyH.cons (o := ?_) ?_ (fun K hK => ?_) AllReadyH.nil
            rotate_left
            focus (simp only [List.getElem?_toArray, List.getElem?_cons_succ, List.getElem?_cons_zero]; rfl)
            rw [if_pos (by rfl)]
            go_simp
            refine hK.out _ _ hcr (fun hHeld => ?_)
            clear hK K
            try simp only [Act.put]
            try simp only [List.setIfInBounds_toArray]
            try simp only [List.set_cons_succ]
            try simp only [List.set_cons_zero]
            refine wpAnyH_ready (rs := [6]) (by kernel_rfl) (by simp) ?_
            refine AllReadyH.cons (o := ?_) ?_ (fun K hK => ?_) AllReadyH.nil
            rotate_left
            focus (simp only [List.getElem?_toArray, List.getElem?_cons_succ, List.getElem?_cons_zero]; rfl)
            rw [if_pos (by rfl)]
            refine wp_append_run rfl rfl rfl hrun5 ?_
            refine hK.out _ _ hcr5 (fun hHeld => ?_)
            clear hK K
            clear hrun5
            try simp only [Act.put]
            try simp only [List.setIfInBounds_toArray]
            try simp only [List.set_cons_succ]
            try simp only [List.set_cons_zero]
            refine wpAnyH_take (i := 7) (oi := ?_) (v := ?_) ?_ (by kernel_rfl) (by kernel_rfl) (by kernel_rfl) ?_ (Or.inl ⟨?_, ?_⟩) (by assumption) ?_
            rotate_left 2
            focus (simp only [List.getElem?_toArray, List.getElem?_cons_succ, List.getElem?_cons_zero]; rfl)
            focus exact fun _ _ _ h => h
            focus rfl
            focus (intro W hS; (try dsimp only at hS); go_simp; (try with_reducible rfl))
            try simp only [Act.put]
            try simp only [List.setIfInBounds_toArray]
            try simp only [List.set_cons_succ]
            try simp only [List.set_cons_zero]
            refine wpAnyH_ready (rs := [8]) (by kernel_rfl) (by simp) ?_
            refine AllReadyH.cons (o := ?_) ?_ (fun K hK => ?_) AllReadyH.nil
            rotate_left
            focus (simp only [List.getElem?_toArray, List.getElem?_cons_succ, List.getElem?_cons_zero]; rfl)
            rw [if_pos (by rfl)]
            go_simp
            refine hK.out _ _ hcr6 (fun hHeld => ?_)
            clear hK K
            try simp only [Act.put]
            try simp only [List.setIfInBounds_toArray]
            try simp only [List.set_cons_succ]
            try simp only [List.set_cons_zero]
            refine wpAnyH_done (by kernel_rfl) ?_ _
            have hsb6 := cells_set hsb5 2 (.slice v5a (il + xj.zs.length) v5c)
            simp only [List.setIfInBounds_toArray, List.set_cons_succ, List.set_cons_zero] at hsb6
            have HSB6 := Lib.hid hsb6
            have HR6 := Lib.hid (HR5.out.keep (w' := w5.setCell ⟨w3.heap.size, 2, none⟩ (.slice v5a (il + xj.zs.length) v5c)) (fun q e => Below.heap_setCell _ _ _ _ (by have := (World.ownsRow.lt HR5.out q e).1; show q ≠ w3.heap.size; omega)))
            have HLR6 := Lib.hid (show LeftR w3.heap.size wa (w5.setCell ⟨w3.heap.size, 2, none⟩ (.slice v5a (il + xj.zs.length) v5c)) from HLR5.out.only (OnlyR.setAny _ _ _ _))
            have hln : il + xj.zs.length = (imgOf (x0 :: xr) (j + 1)).length := by rw [HNX.out, List.length_append, HIL.out]
            have HLN := Lib.hid hln
            clear hsb5 hsb6 hcr hcr5 hcr6 s2d s0 s1 s2 p0 p1 p2 pf hHeld hgr5b hln
            generalize w5.setCell ⟨w3.heap.size, 2, none⟩ (.slice v5a (il + xj.zs.length) v5c) = w6 at *
            go_wp2_with fail
            go_roundw
            case rel => exact ⟨j + 1, v5a, v5c, by omega, by omega, by go_num, by rw [← HLN.out]; exact HSB6.out, by rw [← HLN.out]; exact HR6.out, HLR6.out⟩
            case measure => simp [intOf]; omega
          case sb =>
            rw [if_pos (by rfl)]
            have hcrd : wr.drew.cell? ⟨vg, j, none⟩ = some (.slice (some ⟨xj.g, 0, none⟩) xj.zs.length xj.c) := hcr
            go_simp
            refine hK.out _ _ hcr (fun hHeld => ?_)
            clear hK K
            try simp only [Act.put]
            try simp only [List.setIfInBounds_toArray]
            try simp only [List.set_cons_succ]
            try simp only [List.set_cons_zero]
            refine wpAnyH_ready (rs := [1]) (by kernel_rfl) (by simp) ?_
            refine AllReadyH.cons (o := ?_) ?_ (fun K hK => ?_) AllReadyH.nil
            rotate_left
            focus (simp only [List.getElem?_toArray, List.getElem?_cons_succ, List.getElem?_cons_zero]; rfl)
            rw [if_pos (by rfl)]
            go_simp
            refine hK.out _ _ hcr (fun hHeld => ?_)
            clear hK K
            try simp only [Act.put]
            try simp only [List.setIfInBounds_toArray]
            try simp only [List.set_cons_succ]
            try simp only [List.set_cons_zero]
            refine wpAnyH_ready (rs := [6]) (by kernel_rfl) (by simp) ?_
            refine AllReadyH.cons (o := ?_) ?_ (fun K hK => ?_) AllReadyH.nil
            rotate_left
            focus (simp only [List.getElem?_toArray, List.getElem?_cons_succ, List.getElem?_cons_zero]; rfl)
            rw [if_pos (by rfl)]
            refine wp_append_run rfl rfl rfl hrun5 ?_
            refine hK.out _ _ hcr5 (fun hHeld => ?_)
            clear hK K
            clear hrun5
            try simp only [Act.put]
            try simp only [List.setIfInBounds_toArray]
            try simp only [List.set_cons_succ]
            try simp only [List.set_cons_zero]
            refine wpAnyH_take (i := 7) (oi := ?_) (v := ?_) ?_ (by kernel_rfl) (by kernel_rfl) (by kernel_rfl) ?_ (Or.inl ⟨?_, ?_⟩) (by assumption) ?_
            rotate_left 2
            focus (simp only [List.getElem?_toArray, List.getElem?_cons_succ, List.getElem?_cons_zero]; rfl)
            focus exact fun _ _ _ h => h
            focus rfl
            focus (intro W hS; (try dsimp only at hS); go_simp; (try with_reducible rfl))
            try simp only [Act.put]
            try simp only [List.setIfInBounds_toArray]
            try simp only [List.set_cons_succ]
            try simp only [List.set_cons_zero]
            refine wpAnyH_ready (rs := [8]) (by kernel_rfl) (by simp) ?_
            refine AllReadyH.cons (o := ?_) ?_ (fun K hK => ?_) AllReadyH.nil
            rotate_left
            focus (simp only [List.getElem?_toArray, List.getElem?_cons_succ, List.getElem?_cons_zero]; rfl)
            rw [if_pos (by rfl)]
            go_simp
            refine hK.out _ _ hcr6 (fun hHeld => ?_)
            clear hK K
            try simp only [Act.put]
            try simp only [List.setIfInBounds_toArray]
            try simp only [List.set_cons_succ]
            try simp only [List.set_cons_zero]
            refine wpAnyH_done (by kernel_rfl) ?_ _
            have hsb6 := cells_set hsb5 2 (.slice v5a (il + xj.zs.length) v5c)
            simp only [List.setIfInBounds_toArray, List.set_cons_succ, List.set_cons_zero] at hsb6
            have HSB6 := Lib.hid hsb6
            have HR6 := Lib.hid (HR5.out.keep (w' := w5.setCell ⟨w3.heap.size, 2, none⟩ (.slice v5a (il + xj.zs.length) v5c)) (fun q e => Below.heap_setCell _ _ _ _ (by have := (World.ownsRow.lt HR5.out q e).1; show q ≠ w3.heap.size; omega)))
            have HLR6 := Lib.hid (show LeftR w3.heap.size wa (w5.setCell ⟨w3.heap.size, 2, none⟩ (.slice v5a (il + xj.zs.length) v5c)) from HLR5.out.only (OnlyR.setAny _ _ _ _))
            have hln : il + xj.zs.length = (imgOf (x0 :: xr) (j + 1)).length := by rw [HNX.out, List.length_append, HIL.out]
            have HLN := Lib.hid hln
            clear hsb5 hsb6 hcr hcr5 hcr6 s2d s0 s1 s2 p0 p1 p2 pf hHeld hgr5b hln
            generalize w5.setCell ⟨w3.heap.size, 2, none⟩ (.slice v5a (il + xj.zs.length) v5c) = w6 at *
            go_wp2_with fail
            go_roundw
            case rel => exact ⟨j + 1, v5a, v5c, by omega, by omega, by go_num, by rw [← HLN.out]; exact HSB6.out, by rw [← HLN.out]; exact HR6.out, HLR6.out⟩
            case measure => simp [intOf]; omega
        · obtain rfl : j = xl := by omega
          have himg : imgOf (x0 :: xr) j = (xr.map Rec.zs).flatten := by rw [HXL.out]; exact imgOf_all x0 xr
          have HSBR := Lib.hid hsb
          have HLR := Lib.hid hlr
          have HRW := Lib.hid hrow
          have HIMG := Lib.hid himg
          obtain ⟨s0, s1, s2⟩ := three_at hsb
          clear hsb hrow hlr himg hil
          rcases HCASE.out with ⟨hd2, rfl⟩ | ⟨q, hd2, rfl, htl⟩
          · go_wp2_with fail
            refine wp_region_held_drew (S := fun W => Below wr.heap.size wr W) (by kernel_rfl) (Below.refl _ _).drew (fun hHeld => ?_)
            refine wpAnyH_take (i := 0) (oi := ?_) (v := ?_) ?_ (by kernel_rfl) (by kernel_rfl) (by kernel_rfl) ?_ (Or.inl ⟨?_, ?_⟩) (by assumption) ?_
            rotate_left 2
            focus (simp only [List.getElem?_toArray, List.getElem?_cons_zero]; rfl)
            focus exact fun _ _ _ h => h
            focus rfl
            focus (intro W hS; (try dsimp only at hS); go_simp; (try with_reducible rfl))
            try simp only [Act.put]
            try simp only [List.setIfInBounds_toArray]
            try simp only [List.set_cons_succ]
            try simp only [List.set_cons_zero]
            refine wpAnyH_take (i := 1) (oi := ?_) (v := ?_) ?_ (by kernel_rfl) (by kernel_rfl) (by kernel_rfl) ?_ (Or.inl ⟨?_, ?_⟩) (by assumption) ?_
            rotate_left 2
            focus (simp only [List.getElem?_toArray, List.getElem?_cons_succ, List.getElem?_cons_zero]; rfl)
            focus exact fun _ _ _ h => h
            focus rfl
            focus (intro W hS; (try dsimp only at hS); go_simp; (try with_reducible rfl))
            try simp only [Act.put]
            try simp only [List.setIfInBounds_toArray]
            try simp only [List.set_cons_succ]
            try simp only [List.set_cons_zero]
            refine wpAnyH_take (i := 2) (oi := ?_) (v := ?_) ?_ (by kernel_rfl) (by kernel_rfl) (by kernel_rfl) ?_ (Or.inl ⟨?_, ?_⟩) (by assumption) ?_
            rotate_left 2
            focus (simp only [List.getElem?_toArray, List.getElem?_cons_succ, List.getElem?_cons_zero]; rfl)
            focus exact fun _ _ _ h => h
            focus rfl
            focus (intro W hS; (try dsimp only at hS); go_simp; (try with_reducible rfl))
            try simp only [Act.put]
            try simp only [List.setIfInBounds_toArray]
            try simp only [List.set_cons_succ]
            try simp only [List.set_cons_zero]
            refine wpAnyH_take (i := 3) (oi := ?_) (v := undef) ?_ (by kernel_rfl) (by kernel_rfl) (by kernel_rfl) ?_ (Or.inr ⟨?_, rfl⟩) (by assumption) ?_
            rotate_left
            focus (simp only [List.getElem?_toArray, List.getElem?_cons_succ, List.getElem?_cons_zero]; rfl)
            focus exact fun _ _ _ h => h
            focus rfl
            try simp only [Act.put]
            try simp only [List.setIfInBounds_toArray]
            try simp only [List.set_cons_succ]
            try simp only [List.set_cons_zero]
            refine wpAnyH_take (i := 4) (oi := ?_) (v := undef) ?_ (by kernel_rfl) (by kernel_rfl) (by kernel_rfl) ?_ (Or.inr ⟨?_, rfl⟩) (by assumption) ?_
            rotate_left
            focus (simp only [List.getElem?_toArray, List.getElem?_cons_succ, List.getElem?_cons_zero]; rfl)
            focus exact fun _ _ _ h => h
            focus rfl
            try simp only [Act.put]
            try simp only [List.setIfInBounds_toArray]
            try simp only [List.set_cons_succ]
            try simp only [List.set_cons_zero]
            refine wpAnyH_take (i := 5) (oi := ?_) (v := undef) ?_ (by kernel_rfl) (by kernel_rfl) (by kernel_rfl) ?_ (Or.inr ⟨?_, rfl⟩) (by assumption) ?_
            rotate_left
            focus (simp only [List.getElem?_toArray, List.getElem?_cons_succ, List.getElem?_cons_zero]; rfl)
            focus exact fun _ _ _ h => h
            focus rfl
            try simp only [Act.put]
            try simp only [List.setIfInBounds_toArray]
            try simp only [List.set_cons_succ]
            try simp only [List.set_cons_zero]
            refine wpAnyH_take (i := 6) (oi := ?_) (v := undef) ?_ (by kernel_rfl) (by kernel_rfl) (by kernel_rfl) ?_ (Or.inr ⟨?_, rfl⟩) (by assumption) ?_
            rotate_left
            focus (simp only [List.getElem?_toArray, List.getElem?_cons_succ, List.getElem?_cons_zero]; rfl)
            focus exact fun _ _ _ h => h
            focus rfl
            try simp only [Act.put]
            try simp only [List.setIfInBounds_toArray]
            try simp only [List.set_cons_succ]
            try simp only [List.set_cons_zero]
            refine wpAnyH_take (i := 7) (oi := ?_) (v := ?_) ?_ (by kernel_rfl) (by kernel_rfl) (by kernel_rfl) ?_ (Or.inl ⟨?_, ?_⟩) (by assumption) ?_
            rotate_left 2
            focus (simp only [List.getElem?_toArray, List.getElem?_cons_succ, List.getElem?_cons_zero]; rfl)
            focus exact fun _ _ _ h => h
            focus rfl
            focus (intro W hS; (try dsimp only at hS); go_simp; (try with_reducible rfl))
            try simp only [Act.put]
            try simp only [List.setIfInBounds_toArray]
            try simp only [List.set_cons_succ]
            try simp only [List.set_cons_zero]
            refine wpAnyH_take (i := 8) (oi := ?_) (v := ?_) ?_ (by kernel_rfl) (by kernel_rfl) (by kernel_rfl) ?_ (Or.inl ⟨?_, ?_⟩) (by assumption) ?_
            rotate_left 2
            focus (simp only [List.getElem?_toArray, List.getElem?_cons_succ, List.getElem?_cons_zero]; rfl)
            focus exact fun _ _ _ h => h
            focus rfl
            focus (intro W hS; (try dsimp only at hS); go_simp; (try with_reducible rfl))
            try simp only [Act.put]
            try simp only [List.setIfInBounds_toArray]
            try simp only [List.set_cons_succ]
            try simp only [List.set_cons_zero]
            refine wpAnyH_take (i := 9) (oi := ?_) (v := undef) ?_ (by kernel_rfl) (by kernel_rfl) (by kernel_rfl) ?_ (Or.inr ⟨?_, rfl⟩) (by assumption) ?_
            rotate_left
            focus (simp only [List.getElem?_toArray, List.getElem?_cons_succ, List.getElem?_cons_zero]; rfl)
            focus exact fun _ _ _ h => h
            focus rfl
            try simp only [Act.put]
            try simp only [List.setIfInBounds_toArray]
            try simp only [List.set_cons_succ]
            try simp only [List.set_cons_zero]
            refine wpAnyH_take (i := 10) (oi := ?_) (v := undef) ?_ (by kernel_rfl) (by kernel_rfl) (by kernel_rfl) ?_ (Or.inr ⟨?_, rfl⟩) (by assumption) ?_
            rotate_left
            focus (simp only [List.getElem?_toArray, List.getElem?_cons_succ, List.getElem?_cons_zero]; rfl)
            focus exact fun _ _ _ h => h
            focus rfl
            try simp only [Act.put]
            try simp only [List.setIfInBounds_toArray]
            try simp only [List.set_cons_succ]
            try simp only [List.set_cons_zero]
            refine wpAnyH_take (i := 11) (oi := ?_) (v := undef) ?_ (by kernel_rfl) (by kernel_rfl) (by kernel_rfl) ?_ (Or.inr ⟨?_, rfl⟩) (by assumption) ?_
            rotate_left
            focus (simp only [List.getElem?_toArray, List.getElem?_cons_succ, List.getElem?_cons_zero]; rfl)
            focus exact fun _ _ _ h => h
            focus rfl
            try simp only [Act.put]
            try simp only [List.setIfInBounds_toArray]
            try simp only [List.set_cons_succ]
            try simp only [List.set_cons_zero]
            refine wpAnyH_take (i := 12) (oi := ?_) (v := undef) ?_ (by kernel_rfl) (by kernel_rfl) (by kernel_rfl) ?_ (Or.inr ⟨?_, rfl⟩) (by assumption) ?_
            rotate_left
            focus (simp only [List.getElem?_toArray, List.getElem?_cons_succ, List.getElem?_cons_zero]; rfl)
            focus exact fun _ _ _ h => h
            focus rfl
            try simp only [Act.put]
            try simp only [List.setIfInBounds_toArray]
            try simp only [List.set_cons_succ]
            try simp only [List.set_cons_zero]
            refine wpAnyH_take (i := 13) (oi := ?_) (v := undef) ?_ (by kernel_rfl) (by kernel_rfl) (by kernel_rfl) ?_ (Or.inr ⟨?_, rfl⟩) (by assumption) ?_
            rotate_left
            focus (simp only [List.getElem?_toArray, List.getElem?_cons_succ, List.getElem?_cons_zero]; rfl)
            focus exact fun _ _ _ h => h
            focus rfl
            try simp only [Act.put]
            try simp only [List.setIfInBounds_toArray]
            try simp only [List.set_cons_succ]
            try simp only [List.set_cons_zero]
            refine wpAnyH_take (i := 14) (oi := ?_) (v := undef) ?_ (by kernel_rfl) (by kernel_rfl) (by kernel_rfl) ?_ (Or.inr ⟨?_, rfl⟩) (by assumption) ?_
            rotate_left
            focus (simp only [List.getElem?_toArray, List.getElem?_cons_succ, List.getElem?_cons_zero]; rfl)
            focus exact fun _ _ _ h => h
            focus rfl
            try simp only [Act.put]
            try simp only [List.setIfInBounds_toArray]
            try simp only [List.set_cons_succ]
            try simp only [List.set_cons_zero]
            refine wpAnyH_take (i := 15) (oi := ?_) (v := ?_) ?_ (by kernel_rfl) (by kernel_rfl) (by kernel_rfl) ?_ (Or.inl ⟨?_, ?_⟩) (by assumption) ?_
            rotate_left 2
            focus (simp only [List.getElem?_toArray, List.getElem?_cons_succ, List.getElem?_cons_zero]; rfl)
            focus exact fun _ _ _ h => h
            focus rfl
            focus (intro W hS; (try dsimp only at hS); go_simp; (try with_reducible rfl))
            try simp only [Act.put]
            try simp only [List.setIfInBounds_toArray]
            try simp only [List.set_cons_succ]
            try simp only [List.set_cons_zero]
            refine wpAnyH_done (by kernel_rfl) ?_ _
            have hbk5 : wr.drew.heap[w.heap.size]? = some zeroS := (HLR.out.block w.heap.size (lt_of_block HBK4.out) (by omega)).trans HBK4.out
            have HB5 := Lib.hid ((HB4.out.trans (HLR.out.below (by omega) (by omega))).drew)
            generalize wr.drew = wd at hbk5 HB5 ⊢
            obtain ⟨c0, c1, c2⟩ := three_at hbk5
            have f0 : (wd).frozen? ⟨w.heap.size, 0, none⟩ = false := frozen_row hbk5
            have f1 : (wd).frozen? ⟨w.heap.size, 1, none⟩ = false := frozen_row hbk5
            have f2 : (wd).frozen? ⟨w.heap.size, 2, none⟩ = false := frozen_row hbk5
            have HE2 := Lib.hid hbk5
            clear hbk5
            go_wp2_with fail
            obtain ⟨d0, d1, d2⟩ := three_at (three_cells HE2.out (.int .u64 0) (.int .u64 0) (.slice none 0 0))
            refine bodyPost_ret (v := .tuple #[zeroSV, .int .i64 4]) (by simp [results, Try.results17, go_sem, d0, d1, d2]) rfl ⟨three_below (Nat.le_refl _) _ _ _ (HB5.out), none, ?_, rfl⟩
            exact Vt.ref_kept_no2 HSN.out HD1.out.symm (by rw [HD2.out.symm, hd2])
          · have dl : decide ((262144 : Int) < (il : Int)) = false := by simp; omega
            obtain ⟨I, hI⟩ : ∃ I, I = imgOf (x0 :: xr) j := ⟨_, rfl⟩
            have himg2 : I = (xr.map Rec.zs).flatten := hI.trans HIMG.out
            have hil2 : il = I.length := by rw [hI]; exact HIL.out
            have hrw := HRW.out
            rw [← hI, ← hil2] at hrw
            have hrng : ∀ x ∈ I, 0 ≤ x ∧ x ≤ 255 := fun x hx => by
              rw [himg2] at hx
              obtain ⟨z, hz, hxz⟩ := List.mem_flatten.1 hx
              exact (Vt.Scans.is HSN.out HP.out.hr).2.2 z (by simp only [List.map_cons]; exact List.mem_cons_of_mem _ hz) x hxz
            have hrd : Reads wr iva I ∧ I.length ≤ ivc := by
              have hrw2 := hrw
              rw [hil2] at hrw2
              obtain ⟨a', c', he, hh, _, hc1, _, _⟩ := row_src hrw2 hrng (by omega)
              cases he
              exact ⟨hh.reads, hc1⟩
            have hIl : I.length = il := hil2.symm
            have hpr := fun (W : World) (hW : Below wr.heap.size wr W) => refShot_any n t iva ivc I W HN.out htl (hrd.1.below hW) (by omega) hrd.2
            simp only [hIl] at hpr
            have HPR := Lib.hid hpr
            have hwr0 : Below w.heap.size w wr := HB4.out.trans (HLR.out.below (by omega) (by omega))
            have HWR0 := Lib.hid hwr0
            have hszr := HLR.out.size
            have HRDB := Lib.hid (HP.out.below hwr0)
            have HS0 := Lib.hid (show ∀ W, Below wr.heap.size wr W → W.cell? ⟨w3.heap.size, 0, none⟩ = some (.int .u64 (n : Int)) ∧ W.cell? ⟨w3.heap.size, 1, none⟩ = some (.int .u64 (t : Int)) ∧ W.cell? ⟨w3.heap.size, 2, none⟩ = some (.slice iva il ivc) from fun W h => three_at ((h.block _ (lt_of_block HSBR.out)).trans HSBR.out))
            have HRNG := Lib.hid hrng
            have HI2 := Lib.hid himg2
            have HRWI := Lib.hid hrw
            have HIL2 := Lib.hid hil2
            have HTL := Lib.hid htl
            have HDD := Lib.hid hd2
            have cv2 := fun (W : World) (hW : Below wr.heap.size wr W) => (HRDB.out.below hW).text len cap HZ.out
            have HSBX := Lib.hid (fun (hvr : ∀ x ∈ Vt.shotOf n t I, 0 ≤ x ∧ x ≤ 255) => str_eq hvr HP.out.hr)
            obtain ⟨SB, hSB⟩ : ∃ SB, SB = strOfNums bs := ⟨_, rfl⟩
            rw [← hSB] at cv2 HSBX
            have CV2 := Lib.hid cv2
            have HSBE := Lib.hid hSB
            clear cv2 hSB hI himg2 hil2 hrw hrng hrd hIl hpr hwr0 htl hd2 s0 s1 s2
            go_wp2_with fail
            refine wp_region_held_drew (S := fun W => Below wr.heap.size wr W) (by kernel_rfl) (Below.refl _ _).drew (fun hHeld => ?_)
            refine wpAnyH_take (i := 0) (oi := ?_) (v := ?_) ?_ (by kernel_rfl) (by kernel_rfl) (by kernel_rfl) ?_ (Or.inl ⟨?_, ?_⟩) (by assumption) ?_
            rotate_left 2
            focus (simp only [List.getElem?_toArray, List.getElem?_cons_zero]; rfl)
            focus exact fun _ _ _ h => h
            focus rfl
            focus (intro W hS; (try dsimp only at hS); go_simp; (try with_reducible rfl))
            try simp only [Act.put]
            try simp only [List.setIfInBounds_toArray]
            try simp only [List.set_cons_succ]
            try simp only [List.set_cons_zero]
            refine wpAnyH_take (i := 1) (oi := ?_) (v := ?_) ?_ (by kernel_rfl) (by kernel_rfl) (by kernel_rfl) ?_ (Or.inl ⟨?_, ?_⟩) (by assumption) ?_
            rotate_left 2
            focus (simp only [List.getElem?_toArray, List.getElem?_cons_succ, List.getElem?_cons_zero]; rfl)
            focus exact fun _ _ _ h => h
            focus rfl
            focus (intro W hS; (try dsimp only at hS); go_simp; (try with_reducible rfl))
            try simp only [Act.put]
            try simp only [List.setIfInBounds_toArray]
            try simp only [List.set_cons_succ]
            try simp only [List.set_cons_zero]
            refine wpAnyH_take (i := 2) (oi := ?_) (v := ?_) ?_ (by kernel_rfl) (by kernel_rfl) (by kernel_rfl) ?_ (Or.inl ⟨?_, ?_⟩) (by assumption) ?_
            rotate_left 2
            focus (simp only [List.getElem?_toArray, List.getElem?_cons_succ, List.getElem?_cons_zero]; rfl)
            focus exact fun _ _ _ h => h
            focus rfl
            focus (intro W hS; (try dsimp only at hS); go_simp; (try with_reducible rfl))
            try simp only [Act.put]
            try simp only [List.setIfInBounds_toArray]
            try simp only [List.set_cons_succ]
            try simp only [List.set_cons_zero]
            refine wpAnyH_take (i := 3) (oi := ?_) (v := ?_) ?_ (by kernel_rfl) (by kernel_rfl) (by kernel_rfl) ?_ (Or.inl ⟨?_, ?_⟩) (by assumption) ?_
            rotate_left 2
            focus (simp only [List.getElem?_toArray, List.getElem?_cons_succ, List.getElem?_cons_zero]; rfl)
            focus exact fun _ _ _ h => h
            focus rfl
            focus (intro W hS; (try dsimp only at hS); go_simp; (try with_reducible rfl))
            try simp only [Act.put]
            try simp only [List.setIfInBounds_toArray]
            try simp only [List.set_cons_succ]
            try simp only [List.set_cons_zero]
            refine wpAnyH_take (i := 4) (oi := ?_) (v := ?_) ?_ (by kernel_rfl) (by kernel_rfl) (by kernel_rfl) ?_ (Or.inl ⟨?_, ?_⟩) (by assumption) ?_
            rotate_left 2
            focus (simp only [List.getElem?_toArray, List.getElem?_cons_succ, List.getElem?_cons_zero]; rfl)
            focus exact fun _ _ _ h => h
            focus rfl
            focus (intro W hS; (try dsimp only at hS); obtain ⟨q0, q1, q2⟩ := HS0.out W hS; go_simp; (try with_reducible rfl))
            try simp only [Act.put]
            try simp only [List.setIfInBounds_toArray]
            try simp only [List.set_cons_succ]
            try simp only [List.set_cons_zero]
            refine wpAnyH_take (i := 5) (oi := ?_) (v := ?_) ?_ (by kernel_rfl) (by kernel_rfl) (by kernel_rfl) ?_ (Or.inl ⟨?_, ?_⟩) (by assumption) ?_
            rotate_left 2
            focus (simp only [List.getElem?_toArray, List.getElem?_cons_succ, List.getElem?_cons_zero]; rfl)
            focus exact fun _ _ _ h => h
            focus rfl
            focus (intro W hS; (try dsimp only at hS); go_simp; (try with_reducible rfl))
            try simp only [Act.put]
            try simp only [List.setIfInBounds_toArray]
            try simp only [List.set_cons_succ]
            try simp only [List.set_cons_zero]
            refine wpAnyH_take (i := 6) (oi := ?_) (v := ?_) ?_ (by kernel_rfl) (by kernel_rfl) (by kernel_rfl) ?_ (Or.inl ⟨?_, ?_⟩) (by assumption) ?_
            rotate_left 2
            focus (simp only [List.getElem?_toArray, List.getElem?_cons_succ, List.getElem?_cons_zero]; rfl)
            focus exact fun _ _ _ h => h
            focus rfl
            focus (intro W hS; (try dsimp only at hS); go_simp; (try with_reducible rfl))
            try simp only [Act.put]
            try simp only [List.setIfInBounds_toArray]
            try simp only [List.set_cons_succ]
            try simp only [List.set_cons_zero]
            refine wpAnyH_take (i := 7) (oi := ?_) (v := ?_) ?_ (by kernel_rfl) (by kernel_rfl) (by kernel_rfl) ?_ (Or.inl ⟨?_, ?_⟩) (by assumption) ?_
            rotate_left 2
            focus (simp only [List.getElem?_toArray, List.getElem?_cons_succ, List.getElem?_cons_zero]; rfl)
            focus exact fun _ _ _ h => h
            focus rfl
            focus (intro W hS; (try dsimp only at hS); go_simp; (try with_reducible rfl))
            try simp only [Act.put]
            try simp only [List.setIfInBounds_toArray]
            try simp only [List.set_cons_succ]
            try simp only [List.set_cons_zero]
            refine wpAnyH_take (i := 8) (oi := ?_) (v := ?_) ?_ (by kernel_rfl) (by kernel_rfl) (by kernel_rfl) ?_ (Or.inl ⟨?_, ?_⟩) (by assumption) ?_
            rotate_left 2
            focus (simp only [List.getElem?_toArray, List.getElem?_cons_succ, List.getElem?_cons_zero]; rfl)
            focus exact fun _ _ _ h => h
            focus rfl
            focus (intro W hS; (try dsimp only at hS); go_simp; (try with_reducible rfl))
            try simp only [Act.put]
            try simp only [List.setIfInBounds_toArray]
            try simp only [List.set_cons_succ]
            try simp only [List.set_cons_zero]
            refine wpAnyH_take (i := 9) (oi := ?_) (v := ?_) ?_ (by kernel_rfl) (by kernel_rfl) (by kernel_rfl) ?_ (Or.inl ⟨?_, ?_⟩) (by assumption) ?_
            rotate_left 2
            focus (simp only [List.getElem?_toArray, List.getElem?_cons_succ, List.getElem?_cons_zero]; rfl)
            focus exact fun _ _ _ h => h
            focus rfl
            focus (intro W hS; (try dsimp only at hS); obtain ⟨q0, q1, q2⟩ := HS0.out W hS; go_simp; (try with_reducible rfl))
            try simp only [Act.put]
            try simp only [List.setIfInBounds_toArray]
            try simp only [List.set_cons_succ]
            try simp only [List.set_cons_zero]
            refine wpAnyH_take (i := 12) (oi := ?_) (v := ?_) ?_ (by kernel_rfl) (by kernel_rfl) (by kernel_rfl) ?_ (Or.inl ⟨?_, ?_⟩) (by assumption) ?_
            rotate_left 2
            focus (simp only [List.getElem?_toArray, List.getElem?_cons_succ, List.getElem?_cons_zero]; rfl)
            focus exact fun _ _ _ h => h
            focus rfl
            focus (intro W hS; (try dsimp only at hS); go_simp; (try with_reducible rfl))
            try simp only [Act.put]
            try simp only [List.setIfInBounds_toArray]
            try simp only [List.set_cons_succ]
            try simp only [List.set_cons_zero]
            refine wpAnyH_take (i := 13) (oi := ?_) (v := ?_) ?_ (by kernel_rfl) (by kernel_rfl) (by kernel_rfl) ?_ (Or.inl ⟨?_, ?_⟩) (by assumption) ?_
            rotate_left 2
            focus (simp only [List.getElem?_toArray, List.getElem?_cons_succ, List.getElem?_cons_zero]; rfl)
            focus exact fun _ _ _ h => h
            focus rfl
            focus (intro W hS; (try dsimp only at hS); have q := CV2.out W hS; go_simp; (try with_reducible rfl))
            try simp only [Act.put]
            try simp only [List.setIfInBounds_toArray]
            try simp only [List.set_cons_succ]
            try simp only [List.set_cons_zero]
            refine wpAnyH_ready (rs := [10]) (by kernel_rfl) (by simp) ?_
            refine AllReadyH.cons (o := ?_) ?_ (fun K hK => ?_) AllReadyH.nil
            rotate_left
            focus (simp only [List.getElem?_toArray, List.getElem?_cons_succ, List.getElem?_cons_zero]; rfl)
            rw [if_pos (by rfl)]
            go_simp
            refine (HPR.out _ (Below.refl wr.heap.size wr).drew).mono ?_
            rintro r w5 ⟨g5, c5, rfl, hr5, hb5⟩
            have h5 : Below wr.heap.size wr w5 := (Below.refl wr.heap.size wr).drew.trans hb5
            have hok : (⟨n, t, I⟩ : Vt.Shot).ok := ⟨HN.out, HTL.out, by have := HIL2.out; show I.length ≤ _; omega, HRNG.out⟩
            have hvr : ∀ x ∈ Vt.shotOf n t I, 0 ≤ x ∧ x ≤ 255 := Frame.flat_range (Vt.shot_small ⟨n, t, I⟩) (Vt.shot_range hok)
            have hse := HSBX.out hvr
            have CV1 := Lib.hid (fun (W : World) (hW : Below w5.heap.size w5 W) => hr5.text hW)
            have HSE := Lib.hid hse
            have HOK := Lib.hid hok
            clear hr5 hb5 hse hvr hok
            go_wp2_with fail
            refine hK.out _ _ h5 (fun hHeld => ?_)
            clear hK K
            try simp only [Act.put]
            try simp only [List.setIfInBounds_toArray]
            try simp only [List.set_cons_succ]
            try simp only [List.set_cons_zero]
            by_cases hq : Vt.shotOf n t I = bs
            · have hcv := CV1.out
              rw [hq, ← HSBE.out] at hcv
              have HCV := Lib.hid hcv
              clear hcv CV1 HSE
              refine wpAnyH_sharper (S' := fun W => Below w5.heap.size w5 W) (fun W hW => h5.trans (hW.mono h5.size)) _ _ _ _ ?_
              have hHeld : Below w5.heap.size w5 w5 := Below.refl _ _
              refine wpAnyH_take (i := 11) (oi := ?_) (v := ?_) ?_ (by kernel_rfl) (by kernel_rfl) (by kernel_rfl) ?_ (Or.inl ⟨?_, ?_⟩) (by assumption) ?_
              rotate_left 2
              focus (simp only [List.getElem?_toArray, List.getElem?_cons_succ, List.getElem?_cons_zero]; rfl)
              focus exact fun _ _ _ h => h
              focus rfl
              focus (intro W hS; (try dsimp only at hS); have q := HCV.out W hS; go_simp; (try with_reducible rfl))
              try simp only [Act.put]
              try simp only [List.setIfInBounds_toArray]
              try simp only [List.set_cons_succ]
              try simp only [List.set_cons_zero]
              refine wpAnyH_take (i := 14) (oi := ?_) (v := ?_) ?_ (by kernel_rfl) (by kernel_rfl) (by kernel_rfl) ?_ (Or.inl ⟨?_, ?_⟩) (by assumption) ?_
              rotate_left 2
              focus (simp only [List.getElem?_toArray, List.getElem?_cons_succ, List.getElem?_cons_zero]; rfl)
              focus exact fun _ _ _ h => h
              focus rfl
              focus (intro W hS; (try dsimp only at hS); go_simp; (try with_reducible rfl))
              try simp only [Act.put]
              try simp only [List.setIfInBounds_toArray]
              try simp only [List.set_cons_succ]
              try simp only [List.set_cons_zero]
              refine wpAnyH_take (i := 15) (oi := ?_) (v := ?_) ?_ (by kernel_rfl) (by kernel_rfl) (by kernel_rfl) ?_ (Or.inl ⟨?_, ?_⟩) (by assumption) ?_
              rotate_left 2
              focus (simp only [List.getElem?_toArray, List.getElem?_cons_succ, List.getElem?_cons_zero]; rfl)
              focus exact fun _ _ _ h => h
              focus rfl
              focus (intro W hS; (try dsimp only at hS); go_simp; (try with_reducible rfl))
              try simp only [Act.put]
              try simp only [List.setIfInBounds_toArray]
              try simp only [List.set_cons_succ]
              try simp only [List.set_cons_zero]
              refine wpAnyH_done (by kernel_rfl) ?_ _
              have hbk5 : w5.heap[w.heap.size]? = some zeroS := (h5.block w.heap.size (by omega)).trans ((HLR.out.block w.heap.size (lt_of_block HBK4.out) (by omega)).trans HBK4.out)
              have HB5 := Lib.hid (HWR0.out.trans (h5.mono HWR0.out.size))
              obtain ⟨k0, k1, k2⟩ := HS0.out w5 h5
              have hr5 := HRWI.out.below h5
              have HR5 := Lib.hid hr5
              clear hHeld h5 hr5
              obtain ⟨c0, c1, c2⟩ := three_at hbk5
              have f0 : w5.frozen? ⟨w.heap.size, 0, none⟩ = false := frozen_row hbk5
              have f1 : w5.frozen? ⟨w.heap.size, 1, none⟩ = false := frozen_row hbk5
              have f2 : w5.frozen? ⟨w.heap.size, 2, none⟩ = false := frozen_row hbk5
              have HE2 := Lib.hid hbk5
              clear hbk5
              go_wp2_with fail
              obtain ⟨d0, d1, d2⟩ := three_at (three_cells HE2.out (.int .u64 (n : Int)) (.int .u64 (t : Int)) (.slice iva il ivc))
              refine bodyPost_ret (v := .tuple #[.agg #[.int .u64 (n : Int), .int .u64 (t : Int), .slice iva il ivc], .int .i64 0]) (by simp [results, Try.results17, go_sem, d0, d1, d2]) rfl ⟨three_below (Nat.le_refl _) _ _ _ HB5.out, some ⟨n, t, I⟩, .yes _ HOK.out hq.symm, .slice iva il ivc, rfl, ?_⟩
              refine (HR5.out.keep fun jj hj => ?_).less (Nat.le_trans (Nat.le_of_lt hw3lt) (Nat.le_of_lt hwas))
              have hjw := (World.ownsRow.lt HR5.out jj hj).1
              rw [Below.heap_setCell _ _ _ _ (show jj ≠ w.heap.size by omega), Below.heap_setCell _ _ _ _ (show jj ≠ w.heap.size by omega), Below.heap_setCell _ _ _ _ (show jj ≠ w.heap.size by omega)]
            · have hcv := CV1.out
              have hse := HSE.out
              rw [decide_eq_false hq] at hse
              generalize strOfNums (Vt.shotOf n t I) = SV at hcv hse
              have HCV := Lib.hid hcv
              clear hcv CV1 HSE
              refine wpAnyH_sharper (S' := fun W => Below w5.heap.size w5 W) (fun W hW => h5.trans (hW.mono h5.size)) _ _ _ _ ?_
              have hHeld : Below w5.heap.size w5 w5 := Below.refl _ _
              refine wpAnyH_take (i := 11) (oi := ?_) (v := ?_) ?_ (by kernel_rfl) (by kernel_rfl) (by kernel_rfl) ?_ (Or.inl ⟨?_, ?_⟩) (by assumption) ?_
              rotate_left 2
              focus (simp only [List.getElem?_toArray, List.getElem?_cons_succ, List.getElem?_cons_zero]; rfl)
              focus exact fun _ _ _ h => h
              focus rfl
              focus (intro W hS; (try dsimp only at hS); have q := HCV.out W hS; go_simp; (try with_reducible rfl))
              try simp only [Act.put]
              try simp only [List.setIfInBounds_toArray]
              try simp only [List.set_cons_succ]
              try simp only [List.set_cons_zero]
              refine wpAnyH_take (i := 14) (oi := ?_) (v := ?_) ?_ (by kernel_rfl) (by kernel_rfl) (by kernel_rfl) ?_ (Or.inl ⟨?_, ?_⟩) (by assumption) ?_
              rotate_left 2
              focus (simp only [List.getElem?_toArray, List.getElem?_cons_succ, List.getElem?_cons_zero]; rfl)
              focus exact fun _ _ _ h => h
              focus rfl
              focus (intro W hS; (try dsimp only at hS); go_simp; (try with_reducible rfl))
              try simp only [Act.put]
              try simp only [List.setIfInBounds_toArray]
              try simp only [List.set_cons_succ]
              try simp only [List.set_cons_zero]
              refine wpAnyH_take (i := 15) (oi := ?_) (v := ?_) ?_ (by kernel_rfl) (by kernel_rfl) (by kernel_rfl) ?_ (Or.inl ⟨?_, ?_⟩) (by assumption) ?_
              rotate_left 2
              focus (simp only [List.getElem?_toArray, List.getElem?_cons_succ, List.getElem?_cons_zero]; rfl)
              focus exact fun _ _ _ h => h
              focus rfl
              focus (intro W hS; (try dsimp only at hS); go_simp; (try with_reducible rfl))
              try simp only [Act.put]
              try simp only [List.setIfInBounds_toArray]
              try simp only [List.set_cons_succ]
              try simp only [List.set_cons_zero]
              refine wpAnyH_done (by kernel_rfl) ?_ _
              have hbk5 : w5.heap[w.heap.size]? = some zeroS := (h5.block w.heap.size (by omega)).trans ((HLR.out.block w.heap.size (lt_of_block HBK4.out) (by omega)).trans HBK4.out)
              have HB5 := Lib.hid (HWR0.out.trans (h5.mono HWR0.out.size))
              clear hse hHeld h5
              obtain ⟨c0, c1, c2⟩ := three_at hbk5
              have f0 : (w5).frozen? ⟨w.heap.size, 0, none⟩ = false := frozen_row hbk5
              have f1 : (w5).frozen? ⟨w.heap.size, 1, none⟩ = false := frozen_row hbk5
              have f2 : (w5).frozen? ⟨w.heap.size, 2, none⟩ = false := frozen_row hbk5
              have HE2 := Lib.hid hbk5
              clear hbk5
              go_wp2_with fail
              obtain ⟨d0, d1, d2⟩ := three_at (three_cells HE2.out (.int .u64 0) (.int .u64 0) (.slice none 0 0))
              refine bodyPost_ret (v := .tuple #[zeroSV, .int .i64 4]) (by simp [results, Try.results17, go_sem, d0, d1, d2]) rfl ⟨three_below (Nat.le_refl _) _ _ _ (HB5.out), none, ?_, rfl⟩
              exact Vt.ref_kept_no3 HSN.out HD1.out.symm (by rw [HD2.out.symm]; exact HDD.out) (fun _ => by rw [← HI2.out]; exact hq)
end Go.Proofs.Ytaljfpkgancidaa
