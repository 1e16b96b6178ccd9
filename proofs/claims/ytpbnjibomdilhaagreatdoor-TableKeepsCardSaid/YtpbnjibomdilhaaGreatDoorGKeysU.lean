/- slices.Sorted(maps.Keys(m)) at a map whose keys are uint64: the keys, each once, rising. -/
import Derived.Test.YtpbnjibomdilhaaGreatDoorMak
import Derived.Test.YtpbnjibomdilhaaGreatDoorGValU13
import Derived.Maps.OwnIn
import Derived.Sort.QuietIn
namespace Go.Proofs.YtpbnjibomdilhaaGreatDoor.Gph
open Go.RowKit Go.Maps Go.Sort
attribute [local go_sem] Oper.semAt_some

theorem keyU_law : Keyed Tryz.prog 26 := int_keyed Tryz.underlying26

/-- the keys that have come -/
structure Come {H : Type} (D : DataW H) (left : Lit → Bool) (ss : List Int) : Prop where
  nodup : ss.Nodup
  mem : ∀ x, x ∈ ss ↔ (has D (.int .u64 x) = true ∧ left (.int .u64 x) = false)
  wf : ∀ x ∈ ss, (Lit.int .u64 x).wf = true

theorem Come.start {H : Type} (D : DataW H) : Come D (has D) [] := ⟨List.nodup_nil, (fun x => by cases has D (.int .u64 x) <;> simp), fun x hx => by cases hx⟩
theorem Come.step {H : Type} {D : DataW H} {left : Lit → Bool} {ss : List Int} (h : Come D left ss) {x : Int} {y : DataW H} (hlk : left (.int .u64 x) = true) (hat : ∀ zd, D.atKey (.int .u64 x) zd = y) (hw : (Lit.int .u64 x).wf = true) :
    Come D (fun z => left z && !z.sameKey (.int .u64 x)) (ss ++ [x]) := by
  have hhas : has D (.int .u64 x) = true := has_true_of_atKey hat
  have hnew : x ∉ ss := fun hx => by have := ((h.mem x).1 hx).2; rw [hlk] at this; cases this
  refine ⟨List.nodup_append.2 ⟨h.nodup, by simp, fun a ha b hb => by simp at hb; subst hb; exact fun e => hnew (e ▸ ha)⟩, fun y => ?_, fun y hy => ?_⟩
  · by_cases hy : y = x
    · subst hy; simp [hhas, Lit.sameKey]
    · simp [h.mem y, hy, Lit.sameKey]
  · rcases List.mem_append.1 hy with hy | hy
    · exact h.wf y hy
    · simp at hy; subst hy; exact hw

/-- a row of all keys -/
structure AllKeys {H : Type} (D : DataW H) (ss : List Int) : Prop where
  nodup : ss.Nodup
  mem : ∀ x, x ∈ ss ↔ has D (.int .u64 x) = true
  wf : ∀ x ∈ ss, (Lit.int .u64 x).wf = true
theorem Come.all {H : Type} {D : DataW H} {left : Lit → Bool} {ss : List Int} (h : Come D left ss) (hl : ∀ kl, left kl = false) : AllKeys D ss :=
  ⟨h.nodup, fun x => by rw [h.mem x, hl]; simp, h.wf⟩
theorem AllKeys.sorted {H : Type} {D : DataW H} {ss : List Int} (h : AllKeys D ss) : AllKeys D (ss.mergeSort fun x y => decide (x ≤ y)) ∧ (ss.mergeSort fun x y => decide (x ≤ y)).Pairwise (· < ·) := by
  have hp := List.mergeSort_perm ss (fun x y : Int => decide (x ≤ y))
  have hn : (ss.mergeSort fun x y => decide (x ≤ y)).Nodup := hp.nodup_iff.2 h.nodup
  refine ⟨⟨hn, fun x => by rw [hp.mem_iff]; exact h.mem x, fun x hx => h.wf x (hp.mem_iff.1 hx)⟩, ?_⟩
  have hs : (ss.mergeSort fun x y => decide (x ≤ y)).Pairwise (fun x y => decide (x ≤ y) = true) := List.pairwise_mergeSort (fun a b c h1 h2 => by simp at *; omega) (fun a b => by simp; omega) ss
  refine (hs.and hn).imp ?_
  rintro a b ⟨h1, h2⟩
  simp at h1
  omega

section
variable {H : Type} {R : Value → Option (DataW H × List MemPlace)}

set_option maxRecDepth 100000 in
set_option maxHeartbeats 2000000 in
theorem keys1_u (n : Nat) (hn : 1 ≤ n) (l p b nn : Nat) (D : DataW H) (J Jx : List Int → World → Prop) (W : World) (hJ : AbidesFrom W.heap.size J)
    (hY : ∀ pre x W1, J pre W1 → pre.length < Maps.size D → YieldAt Fence.wide (n - 1) Tryz.prog l #[encU x] W1 fun e W' =>
      (e = .returned (.bool true) ∧ J (pre ++ [x]) W' ∧ KeepsWalks W1 W') ∨ (e = .returned (.bool false) ∧ Jx (pre ++ [x]) W'))
    (hp : W.cell? ⟨p, 0, none⟩ = some (.map (some b))) (hown : W.ownsMap Tryz.prog 26 R b nn D) (h0 : J [] W) :
    CallsIn Fence.wide n Tryz.prog 39 #[.func (.yield l) #[] #[], .pointer (some ⟨p, 0, none⟩)] W fun e W' => (∃ v, e = .returned v) ∧
      ((∃ xs, AllKeys D xs ∧ True ∧ J xs W') ∨ ∃ pre, Jx pre W') := by
  refine callsIn_of_wp Tryz.func39 rfl trivial ?_ rfl
  simp only [Tryz.ntmps39, List.size_toArray, List.length_cons, List.length_nil, Nat.reduceAdd, Nat.reduceSub, Array.replicate_succ, Array.replicate_zero, List.push_toArray, List.append_toArray, List.nil_append, List.cons_append]
  gi_wp2_with (first
    | (gi_at_range; refine wpListIn_range_own _ rfl _ 53 rfl 26 29 keyU_law Tryz.underlying53 _ b nn _ rfl hown ?_; intro w0 hrg0 hg0 hs0)
    | gi_in)
  go_frame
  gi_loopw [3] (fun _ wr => ∃ (left : Lit → Bool) (cnt : Nat) (ss : List Int), wr.ranges Tryz.prog 26 R b W.heap.size nn D left cnt ∧ ss.length + cnt ≤ Maps.size D ∧ Come D left ss ∧ J ss wr)
    (fun _ wr => wr.rangeLeft b W.heap.size)
  case atStart => exact ⟨_, _, [], hrg0, by simp, Come.start D, hJ [] W w0 none h0 hg0 (fun r e => by cases e)⟩
  case round =>
    obtain ⟨left, cnt, ss, hrg, hcs, hC, hJs⟩ := hrel
    gi_wp2_with (first
      | (gi_at_next; refine wpListIn_next_ranges _ rfl _ rfl 26 keyU_law R encU id (fun key kl hk => by obtain ⟨x, hx, _⟩ := Maps.keyOf_int_inv Tryz.underlying26 hk; exact ⟨x, hx⟩) (fun v _ _ => ⟨v, rfl⟩) b W.heap.size nn _ _ _ rfl hrg ?_ ?_)
      | gi_in)
    · intro hc0 hl0
      gi_wp2
      go_end0
      exact ⟨⟨_, rfl⟩, .inl ⟨ss, hC.all hl0, trivial, hJs⟩⟩
    · intro x c kl yd yp w2 cnt2 hkey hlk hv hat hrg2 hlt hg2 hs2 hen
      obtain ⟨x', ex, rfl, hxw⟩ := Maps.keyOf_int_inv Tryz.underlying26 hkey
      obtain rfl : x = x' := by simpa using ex
      have hJ2 : J ss w2 := hJ ss wr w2 (some W.heap.size) hJs hg2 (fun r e => by cases e; exact ⟨Nat.le_refl _, hrg.iter_walk⟩)
      obtain ⟨fn, tmps, assign, body, hy, hR⟩ := hY ss x w2 hJ2 (by omega)
      clear hs2
      gi_wp2
      refine hR.mono ?_
      rintro e W3 (⟨rfl, hJ3, hk3⟩ | ⟨rfl, hJx3⟩)
      · gi_wp2
        have hrg3 := hrg2.of_walks hk3
        go_roundw
        case rel => exact ⟨_, cnt2, ss ++ [x], hrg3, by simp; omega, hC.step hlk hat hxw, hJ3⟩
        case measure => rw [hrg3.left_eq, hrg.left_eq]; exact hlt
      · gi_wp2
        refine bodyPost_ret (results_none rfl _ _ _) rfl ?_
        exact ⟨⟨_, rfl⟩, .inr ⟨_, hJx3⟩⟩

theorem mapsKeys_u (mb : Option Nat) (w : World) :
    Calls Tryz.prog 22 #[.map mb] w fun e w' => e = .returned (.func (.func 39) #[] #[.pointer (some ⟨w.heap.size, 0, none⟩)]) ∧ w' = w.alloc (.cells #[.map mb] 53) := by
  go_enter Tryz.func22, Tryz.ntmps22
  go_wp2
  go_ret
  exact ⟨rfl, rfl⟩

set_option maxRecDepth 100000 in
set_option maxHeartbeats 2000000 in
theorem collectKeys_u (p b nn : Nat) (D : DataW H) (w : World) (hp : w.cell? ⟨p, 0, none⟩ = some (.map (some b))) (hown : w.ownsMap Tryz.prog 26 R b nn D) (hsz : Maps.size D ≤ 1000000) :
    Calls Tryz.prog 60 #[.slice none 0 0, .func (.func 39) #[] #[.pointer (some ⟨p, 0, none⟩)]] w fun e w' =>
      ∃ v ss, e = .returned v ∧ AllKeys D ss ∧ ss.length ≤ Maps.size D ∧ w'.ownsRow w.heap.size 26 1 v ss.length (ss.map encU) ∧ Below w.heap.size w w' := by
  obtain ⟨i0, hi, hz0, hz1, hz2⟩ := info_parts infoU64
  have hbA : Below w.heap.size w (w.alloc (.cells #[.slice none 0 0] 27)) := (Below.refl _ _).alloc (Nat.le_refl _) _
  have hpl : p < w.heap.size := World.block_lt_of_cell? w ⟨p, 0, none⟩ hp
  have hbl := hown.lt
  have HP := Lib.hid hp
  have HOWN := Lib.hid hown
  have HBA := Lib.hid hbA
  clear hbA hp hown
  refine (callsIn_wide (n := 3)).1 ?_
  refine callsIn_of_wp_marks Tryz.func60 rfl trivial ?_ rfl
  simp only [Tryz.ntmps60, List.size_toArray, List.length_cons, List.length_nil, Nat.reduceAdd, Nat.reduceSub, Array.replicate_succ, Array.replicate_zero, List.push_toArray, List.append_toArray, List.nil_append, List.cons_append]
  gi_wp2_with fail
  refine range_told_loop (by omega) (gf := 39) (lb := #[.pointer (some ⟨p, 0, none⟩)]) rfl (enters_of Tryz.func39 (by kernel_rfl) rfl)
    (encs := fun x => #[encU x]) (Kp := KeepsWalks) (T := fun _ _ => True) (S := AllKeys D) (N := Maps.size D) (w0 := w)
    (fun l J Jx W hW hJ hJx hY h0 => keys1_u (3 - 1) (by omega) l p b nn D J Jx W hJ (fun pre x W1 hj hl => hY pre x W1 hj trivial hl) ((hW.cell (p := ⟨p, 0, none⟩) hpl).trans HP.out) (by
      obtain ⟨es, clock, hb, Ft, hs, hD⟩ := HOWN.out
      exact ⟨es, clock, (hW.block b hbl).trans hb, Ft, hs, hD⟩) h0)
    (fun h k => h.trans k) (fun W l R o' _ h => KeepsWalks.putObj _ h rfl) (fun _ _ _ _ _ _ _ => trivial) HBA.out (fun _ => rfl)
    (fun pre W => (∃ u, Boxed W w.heap.size 27 u ∧ W.ownsRow w.heap.size 26 1 u pre.length (pre.map encU) ∧ True) ∧ Below w.heap.size w W ∧ w.heap.size + 1 ≤ W.heap.size ∧ pre.length ≤ Maps.size D)
    (fun _ _ _ => False)
    ?own (fun _ _ _ _ _ hs _ _ => hs) ⟨⟨_, heap_alloc_new w _, World.ownsRow_nil _ _ _ _, trivial⟩, HBA.out, by simp, Nat.zero_le _⟩
    (fun x => { tmps := #[.slice none 0 0, .func (.func 39) #[] #[.pointer (some ⟨p, 0, none⟩)], .pointer (some ⟨w.heap.size, 0, none⟩), undef, .slice none 0 0, encU x, .func (.func 39) #[] #[.pointer (some ⟨p, 0, none⟩)], encU x, undef, undef, undef, undef, undef], defers := [] }) ?assign ?body ?done ?stop
  case assign =>
    intro l x W K hK
    gi_wp2
    exact hK
  case own =>
    rintro s X Y row ⟨⟨u, hu, hrow, _⟩, hB, hs, hlen⟩ hg hr
    have hr2 : ∀ r, row = some r → ∃ o : Obj, X.heap[r]? = some o ∧ o.isCells = false := fun r e => (hr r e).2
    obtain ⟨v2, hv2, hrow2, hG⟩ := holdsRow_own w.heap.size w.heap.size 27 26 1 (fun pre : List Int => pre.length) (fun pre => pre.map encU) (fun _ _ => True) s X Y row ⟨u, hu, hrow, trivial⟩ hg hr2
    have hsz := hg.size
    exact ⟨⟨v2, hv2, hrow2, hG⟩, hB.grown hg (Nat.le_trans (Nat.le_refl _) (by omega)) (fun k e => by have := (hr k e).1; simp at this; omega), by omega, hlen⟩
  case body =>
    rintro l pre x W ⟨⟨u, hu, hrow, _⟩, hB, hs, hlen⟩ _ hlt
    have hc := hu.cell
    have hf := hu.frozen
    obtain ⟨ua, uc, rfl, _⟩ := slice_shape hrow
    gi_wp2_with (gi_at_builtin; refine wpListIn_append_own_at _ rfl _ _ 27 rfl w.heap.size 26 i0 (.int .u64 0) 1 8 Tryz.underlying27 hi hz0 hz1 hz2 rfl (by decide) _ _ _ rfl (hrow.alloc _) ⟨W.heap.size, 0, none⟩ 1 1 [encU x] rfl rfl (cell_one_new _ _ _) (by simp [Value.oneCell', encU]) (by unfold maxLen; omega) (by omega) (by simp; omega) ?_)
    intro v' w2 hown' hgrow _ hlies
    obtain ⟨vb, vcc, rfl, _⟩ := slice_shape hown'
    have hBW : w.heap.size ≤ W.heap.size := by omega
    obtain ⟨hv1, hv2, hrow', hko, hbl⟩ := hu.appended (by decide) hrow hBW (Nat.le_refl _) hown' hgrow
    have hkw : KeepsWalks W (w2.setCell ⟨w.heap.size, 0, none⟩ (.slice vb (pre.length + 1) vcc)) := by
      refine ((KeepsWalks.alloc _ _).trans (KeepsWalks.of_grownBy hgrow fun j o ej hj => ?_)).trans (KeepsWalks.setCell _ _ _)
      rcases (hrow.alloc (.cells #[encU x] 26)).2 with ⟨he, _⟩ | ⟨g, cap, cur, he, _, hgb, _⟩
      · rw [he] at ej; simp [Value.ownBlock] at ej
      · rw [he] at ej
        obtain rfl : g = j := by simpa [Value.ownBlock] using ej
        rw [hgb] at hj; cases hj; rfl
    have hsz2 := hgrow.size
    have hsz3 := (KeepsOthers.setCell w2 ⟨w.heap.size, 0, none⟩ (.slice vb (pre.length + 1) vcc)).size
    simp only [World.size_alloc] at hsz2
    have hc1 := hv1.cell
    have hf1 := hv1.frozen
    have HKO := Lib.hid hko
    have HKW := Lib.hid hkw
    have HV2 := Lib.hid hv2
    have HR2 := Lib.hid hrow'
    have HBL := Lib.hid (hB.trans hbl)
    clear hown' hgrow hlies hko hkw hv1 hv2 hrow' hbl hB hu hrow hc hf
    gi_wp2
    refine ⟨HKO.out.from _, HKW.out, ⟨_, HV2.out, ?_, trivial⟩, HBL.out, by omega, by simp; omega⟩
    rw [List.length_append, List.length_singleton, List.map_append, List.map_singleton]
    exact HR2.out
  case stop =>
    rintro D c pre W _ h _
    exact h.elim
  case done =>
    rintro Db ys W hD hS _ ⟨⟨u, hu, hrow, _⟩, hB, hs, hlen⟩ hK
    have hc := hu.cell
    have hD2 : w.heap.size + 1 ≤ Db := by simpa using hD
    obtain ⟨ua, uc, rfl, _⟩ := slice_shape hrow
    have HROW2 := Lib.hid hrow
    have HU := Lib.hid hu
    have HB := Lib.hid hB
    have HK := Lib.hid hK
    clear hrow hu hB hK
    gi_wp2_with fail
    refine ⟨by simp, .inl ⟨_, _, rfl, run_takeDeferred HK.out, ?_⟩⟩
    refine ⟨.slice ua ys.length uc, by simp [results, Tryz.results60, go_sem], .slice ua ys.length uc, ys, rfl, hS, hlen, ?_, ?_⟩
    · refine own_same HROW2.out fun g cs fr hg hgc => World.putObj_heap_other fun e => ?_
      rw [e, HK.out] at hgc
      simp at hgc
    · exact HB.out.grown (grownBy_putObj' _ Db (.deferred none)) (by omega) (fun j e => by cases e; omega)

theorem collect_u (p b nn : Nat) (D : DataW H) (w : World) (hp : w.cell? ⟨p, 0, none⟩ = some (.map (some b))) (hown : w.ownsMap Tryz.prog 26 R b nn D) (hsz : Maps.size D ≤ 1000000) :
    Calls Tryz.prog 37 #[.func (.func 39) #[] #[.pointer (some ⟨p, 0, none⟩)]] w fun e w' =>
      ∃ v ss, e = .returned v ∧ AllKeys D ss ∧ ss.length ≤ Maps.size D ∧ w'.ownsRow w.heap.size 26 1 v ss.length (ss.map encU) ∧ Below w.heap.size w w' := by
  have HC := Lib.hid (collectKeys_u p b nn D w hp hown hsz)
  clear hp hown
  go_enter Tryz.func37, Tryz.ntmps37
  go_wp2_with fail
  refine HC.out.mono ?_
  rintro e w1 ⟨v, ss, rfl, hS, hl, hrow, hb⟩
  obtain ⟨va, vc, rfl, _⟩ := slice_shape hrow
  go_wp2_with fail
  go_ret
  exact ⟨_, ss, rfl, hS, hl, hrow, hb⟩

set_option maxRecDepth 100000 in
theorem sortedKeys_u (p b nn : Nat) (D : DataW H) (w : World) (hp : w.cell? ⟨p, 0, none⟩ = some (.map (some b))) (hown : w.ownsMap Tryz.prog 26 R b nn D) (hsz : Maps.size D ≤ 1000000) :
    Calls Tryz.prog 21 #[.func (.func 39) #[] #[.pointer (some ⟨p, 0, none⟩)]] w fun e w' =>
      ∃ v ss, e = .returned v ∧ AllKeys D ss ∧ ss.Pairwise (· < ·) ∧ ss.length ≤ Maps.size D ∧ w'.ownsRow w.heap.size 26 1 v ss.length (ss.map encU) ∧ Below w.heap.size w w' := by
  have HC := Lib.hid (collect_u p b nn D w hp hown hsz)
  clear hp hown
  go_enter Tryz.func21, Tryz.ntmps21
  go_wp2_with fail
  refine HC.out.mono ?_
  rintro e w1 ⟨v, ss, rfl, hS, hl, hrow, hb⟩
  obtain ⟨va, vc, rfl, _⟩ := slice_shape hrow
  have HSO := Lib.hid (sort_own hrow (by omega))
  have HROW := Lib.hid hrow
  have HB := Lib.hid hb
  have HS := Lib.hid hS
  clear hrow hb hS
  go_wp2_with fail
  refine HSO.out.mono ?_
  rintro e w2 ⟨rfl, hrow2, hg⟩
  have hlm : (ss.mergeSort fun x y => decide (x ≤ y)).length = ss.length := List.length_mergeSort _
  have HR2 := Lib.hid hrow2
  have HB2 := Lib.hid (HB.out.grown hg HB.out.size (fun j e => (World.ownsRow.lt HROW.out j e).1))
  clear hrow2 hg
  go_wp2_with fail
  go_ret
  refine ⟨_, _, rfl, HS.out.sorted.1, HS.out.sorted.2, by rw [hlm]; exact hl, ?_, HB2.out⟩
  rw [hlm]
  exact HR2.out
end

end Go.Proofs.YtpbnjibomdilhaaGreatDoor.Gph
