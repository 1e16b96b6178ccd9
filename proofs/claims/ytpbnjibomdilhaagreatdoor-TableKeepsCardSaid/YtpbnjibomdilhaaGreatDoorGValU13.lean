/- slices.Values, Collect, Sorted at []uint64, by their contracts. -/
import Derived.Test.YtpbnjibomdilhaaGreatDoorMal
import Derived.Maps.OwnIn
import Derived.Sort.QuietIn
import Derived.LoopIn
namespace Go.Proofs.YtpbnjibomdilhaaGreatDoor.Gph
open Go.RowKit Gr Go.Sort Go.Shelf
attribute [local go_sem] Oper.semAt_some

theorem slice_shape {w : World} {B : Nat} {e : TypeId} {size n : Nat} {v : Value} {xs : List Value} (h : w.ownsRow B e size v n xs) : ∃ a c, v = .slice a n c ∧ (a = none → n = 0 ∧ c = 0) := by
  rcases h.2 with ⟨rfl, rfl⟩ | ⟨g, cap, cur, rfl, _⟩
  · exact ⟨none, 0, rfl, fun _ => ⟨rfl, rfl⟩⟩
  · exact ⟨_, _, rfl, fun h => by cases h⟩
theorem own_same {w w' : World} {B : Nat} {e : TypeId} {size : Nat} {v : Value} {n : Nat} {xs : List Value} (h : w.ownsRow B e size v n xs) (hs : ∀ g cs fr, B ≤ g → w.heap[g]? = some (.cells cs e fr) → w'.heap[g]? = w.heap[g]?) : w'.ownsRow B e size v n xs := by
  refine ⟨h.1, ?_⟩
  rcases h.2 with hn | ⟨g, cap, cur, rfl, hb, hg, rest⟩
  · exact .inl hn
  · exact .inr ⟨g, cap, cur, rfl, hb, (hs g _ _ hb hg).trans hg, rest⟩
/-- what a round keeps: all blocks below B -/
structure KB (B : Nat) (W W' : World) : Prop where
  size : W.heap.size ≤ W'.heap.size
  same : ∀ k, k < B → W'.heap[k]? = W.heap[k]?
theorem KB.trans {B : Nat} {A C D : World} (h : KB B A C) (k : KB B C D) : KB B A D := ⟨Nat.le_trans h.size k.size, fun i hi => (k.same i hi).trans (h.same i hi)⟩
theorem KB.put {B : Nat} (W : World) (l : Nat) (o : Obj) (h : B ≤ l) : KB B W (W.putObj l o) := ⟨by simp, fun k hk => World.putObj_heap_other (by omega)⟩
theorem KB.of_below {B : Nat} {W W' : World} (h : Below B W W') : KB B W W' := ⟨h.size, h.block⟩
theorem KB.cell {B : Nat} {W W' : World} (h : KB B W W') {p : Addr} (hp : p.block < B) : W'.cell? p = W.cell? p := World.cell?_of_block (w := W) (h.same _ hp)

/-- what is told: the row, in order -/
def ToldOf {α : Type} (zs : List α) (pre : List α) (_ : World) : Prop := ∀ i (h : i < pre.length), ∃ h2 : i < zs.length, pre[i] = zs[i]
theorem ToldOf.own {α : Type} (zs : List α) (B : Nat) : OwnFrom B (ToldOf zs) := fun _ _ _ _ h _ _ => h
theorem ToldOf.last {α : Type} {zs pre : List α} {x : α} {w : World} (h : ToldOf zs (pre ++ [x]) w) : ∃ h2 : pre.length < zs.length, x = zs[pre.length] := by
  obtain ⟨h1, h2⟩ := h pre.length (by simp)
  exact ⟨h1, by simpa using h2⟩
theorem toldOf_take {α : Type} (zs : List α) (k : Nat) (w : World) : ToldOf zs (zs.take k) w := fun i h => by
  rw [List.length_take] at h
  exact ⟨by omega, by rw [List.getElem_take]⟩

set_option maxRecDepth 100000 in
set_option maxHeartbeats 2000000 in
theorem valuesU1_in (n : Nat) (hn : 1 ≤ n) (l p B : Nat) (a : Option Addr) (c : Nat) (zs : List Int) (w0 : World) (hz : NumsF w0 a zs) (hB : B = w0.heap.size) (hlen : zs.length ≤ 1000000) (J Jx : List Int → World → Prop)
    (W : World) (hW : KB B w0 W)
    (hY : ∀ pre x W1, J pre W1 → ToldOf zs (pre ++ [x]) W1 → pre.length < zs.length → YieldAt Fence.wide (n - 1) Tryz.prog l #[encU x] W1 fun e W' =>
      (e = .returned (.bool true) ∧ J (pre ++ [x]) W' ∧ KB B W1 W') ∨ (e = .returned (.bool false) ∧ Jx (pre ++ [x]) W'))
    (hp : W.cell? ⟨p, 0, none⟩ = some (.slice a zs.length c)) (h0 : J [] W) :
    CallsIn Fence.wide n Tryz.prog 67 #[.func (.yield l) #[] #[], .pointer (some ⟨p, 0, none⟩)] W fun e W' => (∃ v, e = .returned v) ∧
      ((∃ xs, xs = zs ∧ ToldOf zs xs W' ∧ J xs W') ∨ ∃ pre, Jx pre W') := by
  obtain ⟨⟨g, q, ha, hc⟩, hfit⟩ := hz
  have HA := Lib.hid ha
  have HC := Lib.hid hc
  have HW := Lib.hid hW
  have HBB := Lib.hid hB
  clear ha hc hfit hW hB
  refine callsIn_of_wp Tryz.func67 rfl trivial ?_ rfl
  simp only [Tryz.ntmps67, List.size_toArray, List.length_cons, List.length_nil, Nat.reduceAdd, Nat.reduceSub, Array.replicate_succ, Array.replicate_zero, List.push_toArray, List.append_toArray, List.nil_append, List.cons_append]
  gi_wp2
  gi_loopw [7] (fun i wr => ∃ (k : Nat), i = .int .i64 (k : Int) ∧ k ≤ zs.length ∧ J (zs.take k) wr ∧ KB B w0 wr) (fun i wr => zs.length - (intOf i).toNat)
  case atStart => exact ⟨0, rfl, Nat.zero_le _, by simpa using h0, HW.out⟩
  case round =>
    obtain ⟨k, rfl, hk, hj, hkb⟩ := hrel
    by_cases hlt : k < zs.length
    · obtain ⟨hg, hcx⟩ := HC.out k hlt
      have ea := HA.out (by intro e; subst e; simp at hlt)
      cases ea
      have hd1 := (hkb.cell (p := ⟨g, q + k, none⟩) (by rw [HBB.out]; exact hg)).trans hcx
      have htk : zs.take (k + 1) = zs.take k ++ [zs[k]] := List.take_succ_eq_append_getElem hlt
      have hd : decide ((k : Int) < (zs.length : Int)) = true := by simp; omega
      obtain ⟨x, hx⟩ : ∃ x, zs[k] = x := ⟨_, rfl⟩
      rw [hx] at hd1 htk
      obtain ⟨fn, tmps, assign, body, hy, hR⟩ := hY (zs.take k) x wr hj (by rw [← htk]; exact toldOf_take _ _ _) (by rw [List.length_take]; omega)
      rw [← htk] at hR
      have HKB := Lib.hid hkb
      have HR := Lib.hid hR
      clear hcx htk hx hkb hj hR hY
      gi_wp2_with fail
      refine HR.out.mono ?_
      rintro e W3 (⟨rfl, hJ3, hk3⟩ | ⟨rfl, hJx3⟩)
      · have HK3 := Lib.hid (HKB.out.trans hk3)
        have HJ3 := Lib.hid hJ3
        clear hk3 hJ3 hy HR
        gi_wp2
        go_roundw
        case rel => exact ⟨k + 1, by go_num, by omega, HJ3.out, HK3.out⟩
        case measure => simp [intOf]; omega
      · gi_wp2
        refine bodyPost_ret (results_none rfl _ _ _) rfl ?_
        exact ⟨⟨_, rfl⟩, .inr ⟨_, hJx3⟩⟩
    · obtain rfl : k = zs.length := by omega
      have hd : decide ((zs.length : Int) < (zs.length : Int)) = false := by simp
      rw [List.take_length] at hj
      have HJ2 := Lib.hid hj
      clear hj hY
      gi_wp2_with fail
      refine bodyPost_end (results_none rfl _ _ _) rfl ?_
      exact ⟨⟨_, rfl⟩, .inl ⟨zs, rfl, fun i h => ⟨h, rfl⟩, HJ2.out⟩⟩

theorem valuesU_any (a : Option Addr) (n c : Nat) (w : World) :
    Calls Tryz.prog 51 #[.slice a n c] w fun e w' => e = .returned (.func (.func 67) #[] #[.pointer (some ⟨w.heap.size, 0, none⟩)]) ∧ w' = w.alloc (.cells #[.slice a n c] 27) := by
  go_enter Tryz.func51, Tryz.ntmps51
  go_wp2
  go_ret
  exact ⟨rfl, rfl⟩

set_option maxRecDepth 100000 in
set_option maxHeartbeats 2000000 in
theorem appendSeqU_any (p : Nat) (a : Option Addr) (c : Nat) (zs : List Int) (w : World) (hp : w.cell? ⟨p, 0, none⟩ = some (.slice a zs.length c)) (hz : NumsF w a zs) (hsz : zs.length ≤ 1000000) :
    Calls Tryz.prog 60 #[.slice none 0 0, .func (.func 67) #[] #[.pointer (some ⟨p, 0, none⟩)]] w fun e w' =>
      ∃ v, e = .returned v ∧ RowU w.heap.size v zs w' ∧ Below w.heap.size w w' := by
  obtain ⟨i0, hi, hz0, hz1, hz2⟩ := info_parts infoU64
  have hbA : Below w.heap.size w (w.alloc (.cells #[.slice none 0 0] 27)) := (Below.refl _ _).alloc (Nat.le_refl _) _
  have hpl : p < w.heap.size := World.block_lt_of_cell? w ⟨p, 0, none⟩ hp
  have HP := Lib.hid hp
  have HZ := Lib.hid hz
  have HBA := Lib.hid hbA
  clear hbA hp hz
  refine (callsIn_wide (n := 3)).1 ?_
  refine callsIn_of_wp_marks Tryz.func60 rfl trivial ?_ rfl
  simp only [Tryz.ntmps60, List.size_toArray, List.length_cons, List.length_nil, Nat.reduceAdd, Nat.reduceSub, Array.replicate_succ, Array.replicate_zero, List.push_toArray, List.append_toArray, List.nil_append, List.cons_append]
  gi_wp2_with fail
  refine range_told_loop (by omega) (gf := 67) (lb := #[.pointer (some ⟨p, 0, none⟩)]) rfl (enters_of Tryz.func67 (by kernel_rfl) rfl)
    (encs := fun x => #[encU x]) (Kp := KB w.heap.size) (T := ToldOf zs) (S := fun xs => xs = zs) (N := zs.length) (w0 := w)
    (fun l J Jx W hW hJ hJx hY h0 => valuesU1_in (3 - 1) (by omega) l p w.heap.size a c zs w HZ.out rfl hsz J Jx W (KB.of_below hW) hY ((hW.cell (p := ⟨p, 0, none⟩) hpl).trans HP.out) h0)
    (fun h k => h.trans k) (fun W l R o' hl _ => KB.put W l o' (by simp at hl; omega)) (ToldOf.own zs _) HBA.out (fun _ => rfl)
    (fun pre W => (∃ u, Boxed W w.heap.size 27 u ∧ W.ownsRow w.heap.size 26 1 u pre.length (pre.map encU) ∧ True) ∧ Below w.heap.size w W ∧ w.heap.size + 1 ≤ W.heap.size ∧ pre.length ≤ zs.length)
    (fun _ _ _ => False)
    ?own (fun _ _ _ _ _ hs _ _ => hs) ⟨⟨_, heap_alloc_new w _, World.ownsRow_nil _ _ _ _, trivial⟩, HBA.out, by simp, Nat.zero_le _⟩
    (fun x => { tmps := #[.slice none 0 0, .func (.func 67) #[] #[.pointer (some ⟨p, 0, none⟩)], .pointer (some ⟨w.heap.size, 0, none⟩), undef, .slice none 0 0, encU x, .func (.func 67) #[] #[.pointer (some ⟨p, 0, none⟩)], encU x, undef, undef, undef, undef, undef], defers := [] }) ?assign ?body ?done ?stop
  case assign =>
    intro l x W K hK
    gi_wp2
    exact hK
  case own =>
    rintro s X Y row ⟨⟨u, hu, hrow, _⟩, hB, hs, hlen⟩ hg hr
    have hr2 : ∀ r, row = some r → ∃ o : Obj, X.heap[r]? = some o ∧ o.isCells = false := fun r e => (hr r e).2
    obtain ⟨v2, hv2, hrow2, hG⟩ := holdsRow_own w.heap.size w.heap.size 27 26 1 (fun pre : List Int => pre.length) (fun pre => pre.map encU) (fun _ _ => True) s X Y row ⟨u, hu, hrow, trivial⟩ hg hr2
    have hsz := hg.size
    exact ⟨⟨v2, hv2, hrow2, hG⟩, hB.grown hg (Nat.le_trans (Nat.le_refl _) (by omega)) (fun k e => by have := (hr k e).1; simp at this; omega), by omega, hlen⟩
  case body =>
    rintro l pre x W ⟨⟨u, hu, hrow, _⟩, hB, hs, hlen⟩ _ hlt
    have hc := hu.cell
    have hf := hu.frozen
    obtain ⟨ua, uc, rfl, _⟩ := slice_shape hrow
    gi_wp2_with (gi_at_builtin; refine wpListIn_append_own_at _ rfl _ _ 27 rfl w.heap.size 26 i0 (.int .u64 0) 1 8 Tryz.underlying27 hi hz0 hz1 hz2 rfl (by decide) _ _ _ rfl (hrow.alloc _) ⟨W.heap.size, 0, none⟩ 1 1 [encU x] rfl rfl (cell_one_new _ _ _) (by simp [Value.oneCell', encU]) (by unfold maxLen; omega) (by omega) (by simp; omega) ?_)
    intro v' w2 hown' hgrow _ hlies
    obtain ⟨vb, vcc, rfl, _⟩ := slice_shape hown'
    have hBW : w.heap.size ≤ W.heap.size := by omega
    obtain ⟨hv1, hv2, hrow', hko, hbl⟩ := hu.appended (by decide) hrow hBW (Nat.le_refl _) hown' hgrow
    have hsz2 := hgrow.size
    have hsz3 := (KeepsOthers.setCell w2 ⟨w.heap.size, 0, none⟩ (.slice vb (pre.length + 1) vcc)).size
    simp only [World.size_alloc] at hsz2
    have hc1 := hv1.cell
    have hf1 := hv1.frozen
    have HKO := Lib.hid hko
    have HV2 := Lib.hid hv2
    have HR2 := Lib.hid hrow'
    have HKB := Lib.hid (KB.of_below hbl)
    have HBL := Lib.hid (hB.trans hbl)
    clear hown' hgrow hlies hko hv1 hv2 hrow' hbl hB hu hrow hc hf
    gi_wp2
    refine ⟨HKO.out.from _, HKB.out, ⟨_, HV2.out, ?_, trivial⟩, HBL.out, by omega, by simp; omega⟩
    rw [List.length_append, List.length_singleton, List.map_append, List.map_singleton]
    exact HR2.out
  case stop =>
    rintro D c pre W _ h _
    exact h.elim
  case done =>
    rintro Db ys W hD rfl _ ⟨⟨u, hu, hrow, _⟩, hB, hs, hlen⟩ hK
    have hc := hu.cell
    have hD2 : w.heap.size + 1 ≤ Db := by simpa using hD
    obtain ⟨ua, uc, rfl, _⟩ := slice_shape hrow
    have HROW2 := Lib.hid hrow
    have HU := Lib.hid hu
    have HB := Lib.hid hB
    have HK := Lib.hid hK
    clear hrow hu hB hK
    gi_wp2_with fail
    refine ⟨by simp, .inl ⟨_, _, rfl, run_takeDeferred HK.out, ?_⟩⟩
    refine ⟨.slice ua ys.length uc, by simp [results, Tryz.results60, go_sem], .slice ua ys.length uc, rfl, ⟨?_⟩, ?_⟩
    · refine own_same HROW2.out fun g cs fr hg hgc => World.putObj_heap_other fun e => ?_
      rw [e, HK.out] at hgc
      simp at hgc
    · exact HB.out.grown (grownBy_putObj' _ Db (.deferred none)) (by omega) (fun j e => by cases e; omega)

theorem collectU_any (p : Nat) (a : Option Addr) (c : Nat) (zs : List Int) (w : World) (hp : w.cell? ⟨p, 0, none⟩ = some (.slice a zs.length c)) (hz : NumsF w a zs) (hsz : zs.length ≤ 1000000) :
    Calls Tryz.prog 37 #[.func (.func 67) #[] #[.pointer (some ⟨p, 0, none⟩)]] w fun e w' =>
      ∃ v, e = .returned v ∧ RowU w.heap.size v zs w' ∧ Below w.heap.size w w' := by
  have HC := Lib.hid (appendSeqU_any p a c zs w hp hz hsz)
  clear hp hz
  go_enter Tryz.func37, Tryz.ntmps37
  go_wp2_with fail
  refine HC.out.mono ?_
  rintro e w1 ⟨v, rfl, hrow, hb⟩
  obtain ⟨va, vc, rfl⟩ := hrow.shape
  go_wp2_with fail
  go_ret
  exact ⟨_, rfl, hrow, hb⟩

def sorted (zs : List Int) : List Int := zs.mergeSort fun x y => decide (x ≤ y)
theorem sorted_perm (zs : List Int) : (sorted zs).Perm zs := List.mergeSort_perm _ _
theorem sorted_len (zs : List Int) : (sorted zs).length = zs.length := List.length_mergeSort _
theorem sorted_le (zs : List Int) : (sorted zs).Pairwise (· ≤ ·) := by
  have hs : (sorted zs).Pairwise (fun x y => decide (x ≤ y) = true) := List.pairwise_mergeSort (fun a b c h1 h2 => by simp at *; omega) (fun a b => by simp; omega) zs
  exact hs.imp fun h => by simpa using h

set_option maxRecDepth 100000 in
theorem sortedU_any (p : Nat) (a : Option Addr) (c : Nat) (zs : List Int) (w : World) (hp : w.cell? ⟨p, 0, none⟩ = some (.slice a zs.length c)) (hz : NumsF w a zs) (hsz : zs.length ≤ 1000000) :
    Calls Tryz.prog 21 #[.func (.func 67) #[] #[.pointer (some ⟨p, 0, none⟩)]] w fun e w' =>
      ∃ v, e = .returned v ∧ RowU w.heap.size v (sorted zs) w' ∧ Below w.heap.size w w' := by
  have HC := Lib.hid (collectU_any p a c zs w hp hz hsz)
  clear hp hz
  go_enter Tryz.func21, Tryz.ntmps21
  go_wp2_with fail
  refine HC.out.mono ?_
  rintro e w1 ⟨v, rfl, hrow, hb⟩
  obtain ⟨va, vc, rfl⟩ := hrow.shape
  have HSO := Lib.hid (sort_own hrow.own (by omega))
  have HROW := Lib.hid hrow
  have HB := Lib.hid hb
  clear hrow hb
  go_wp2_with fail
  refine HSO.out.mono ?_
  rintro e w2 ⟨rfl, hrow2, hg⟩
  have HR2 := Lib.hid hrow2
  have HB2 := Lib.hid (HROW.out.grown HB.out HB.out.size hg)
  clear hrow2 hg
  go_wp2_with fail
  go_ret
  refine ⟨_, rfl, ⟨?_⟩, HB2.out⟩
  rw [sorted_len]
  exact HR2.out

end Go.Proofs.YtpbnjibomdilhaaGreatDoor.Gph
