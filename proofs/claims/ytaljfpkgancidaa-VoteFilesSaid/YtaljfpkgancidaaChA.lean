/- slices.Chunk's iterator over an image, by its contract: it tells the image's parts. slices.Chunk and slices.AppendSeq, by their contracts: an image's parts behind a row of records. -/
import Derived.Test.YtaljfpkgancidaaAllIn
import Derived.Test.YtaljfpkgancidaaVtA
import Derived.Test.YtaljfpkgancidaaScan
import Derived.Test.YtaljfpkgancidaaDskB
import Derived.Maps.OwnIn
namespace Go.Proofs.Ytaljfpkgancidaa
open Go.RowKit Go.Shelf
attribute [local go_sem] Oper.semAt_some

/-- the k-th part, as a slice -/
def chunkVal (a : Option Addr) (len k : Nat) : Value := .slice (Option.map (fun x => x.add (4000 * k)) a) (min (len - 4000 * k) 4000) (min (len - 4000 * k) 4000)

/-- what a round keeps: the two boxes -/
structure KeepC (p q : Nat) (W W' : World) : Prop where
  size : W.heap.size ≤ W'.heap.size
  same : ∀ (k : Nat) (cs : Array Value) (t : TypeId) (fr : Nat × Nat), W.heap[k]? = some (.cells cs t fr) → (k = p ∨ k = q) → W'.heap[k]? = W.heap[k]?
theorem KeepC.trans {p q : Nat} {A B C : World} (h : KeepC p q A B) (k : KeepC p q B C) : KeepC p q A C :=
  ⟨Nat.le_trans h.size k.size, fun i cs t fr hi ht => (k.same i cs t fr ((h.same i cs t fr hi ht).trans hi) ht).trans (h.same i cs t fr hi ht)⟩
theorem KeepC.other {p q : Nat} (W : World) (l : Nat) (o o' : Obj) (h : W.heap[l]? = some o) (ho : o.isCells = false) : KeepC p q W (W.putObj l o') :=
  ⟨by simp, fun k cs t fr hk _ => World.putObj_heap_other (fun e => by subst e; rw [h] at hk; cases hk; cases ho)⟩
theorem KeepC.below {p q : Nat} {W W' : World} (h : Below W.heap.size W W') : KeepC p q W W' :=
  ⟨h.size, fun k _ _ _ hk _ => h.block k (lt_of_block hk)⟩
theorem KeepC.box {p q r : Nat} {W W' : World} {t : TypeId} {v : Value} (h : KeepC p q W W') (hr : r = p ∨ r = q) (hb : Boxed W r t v) : Boxed W' r t v := (h.same r _ _ _ hb hr).trans hb

/-- what is told: the parts' numbers, in order -/
def ToldC (pre : List Nat) (_ : World) : Prop := pre = List.range pre.length
theorem ToldC.own (B : Nat) : OwnFrom B ToldC := fun _ _ _ _ h _ _ => h

theorem range_snoc (k : Nat) : List.range k ++ [k] = List.range (k + 1) := (List.range_succ).symm

set_option maxRecDepth 100000 in
set_option maxHeartbeats 2000000 in
theorem chunk1_in (n : Nat) (hn : 1 ≤ n) (l p q : Nat) (a : Option Addr) (len cap : Nat) (hlen : len ≤ 1000000) (hcap : len ≤ cap) (J Jx : List Nat → World → Prop)
    (W : World) (hJ : AbidesFrom W.heap.size J)
    (hY : ∀ pre x W1, J pre W1 → ToldC (pre ++ [x]) W1 → pre.length < Vt.count len → YieldAt Fence.wide (n - 1) Try.prog l #[chunkVal a len x] W1 fun e W' =>
      (e = .returned (.bool true) ∧ J (pre ++ [x]) W' ∧ KeepC p q W1 W') ∨ (e = .returned (.bool false) ∧ Jx (pre ++ [x]) W'))
    (hp : Boxed W p 25 (.slice a len cap)) (hq : Boxed W q 3 (.int .i64 4000)) (h0 : J [] W) :
    CallsIn Fence.wide n Try.prog 48 #[.func (.yield l) #[] #[], .pointer (some ⟨p, 0, none⟩), .pointer (some ⟨q, 0, none⟩)] W fun e W' => (∃ v, e = .returned v) ∧
      ((∃ xs, xs = List.range (Vt.count len) ∧ ToldC xs W' ∧ J xs W') ∨ ∃ pre, Jx pre W') := by
  refine callsIn_of_wp Try.func48 rfl trivial ?_ rfl
  simp only [Try.ntmps48, List.size_toArray, List.length_cons, List.length_nil, Nat.reduceAdd, Nat.reduceSub, Array.replicate_succ, Array.replicate_zero, List.push_toArray, List.append_toArray, List.nil_append, List.cons_append]
  gi_wp2
  gi_loopw [4] (fun i wr => ∃ (k : Nat), i = .int .i64 ((4000 * k : Nat) : Int) ∧ k ≤ Vt.count len ∧ J (List.range k) wr ∧ W.heap.size ≤ wr.heap.size ∧ Boxed wr p 25 (.slice a len cap) ∧ Boxed wr q 3 (.int .i64 4000))
    (fun i wr => len + 4000 - (intOf i).toNat)
  case atStart =>
    exact ⟨0, rfl, Nat.zero_le _, h0, Nat.le_refl _, hp, hq⟩
  case round =>
    obtain ⟨k, rfl, hk, hj, hsz, hbp, hbq⟩ := hrel
    have hcp := hbp.cell
    have hcq := hbq.cell
    by_cases hlt : 4000 * k < len
    · have hkc : k < Vt.count len := by unfold Vt.count; omega
      have hjd : J (List.range k) wr.drew := hJ _ wr wr.drew none hj ⟨rfl, rfl, rfl, Nat.le_refl _, fun _ _ _ => rfl⟩ (fun r e => by cases e)
      obtain ⟨fn, tmps, assign, body, hy, hR⟩ := hY (List.range k) k wr.drew hjd (by rw [range_snoc]; simp [ToldC]) (by simpa using hkc)
      rw [range_snoc] at hR
      have he : Value.slice (Option.map (fun x => x.add (4000 * k)) a) ((4000 * (k : Int) + min 4000 ((len - 4000 * k : Nat) : Int)).toNat - 4000 * k) ((4000 * (k : Int) + min 4000 ((len - 4000 * k : Nat) : Int)).toNat - 4000 * k) = chunkVal a len k := by
        unfold chunkVal
        rw [show (4000 * (k : Int) + min 4000 ((len - 4000 * k : Nat) : Int)).toNat - 4000 * k = min (len - 4000 * k) 4000 by omega]
      have HBP := Lib.hid hbp
      have HBQ := Lib.hid hbq
      have HE := Lib.hid he
      have HKC := Lib.hid hkc
      obtain ⟨j, hjj⟩ : ∃ j, j = 4000 * k := ⟨_, rfl⟩
      have hjl : j + 4000 ≤ 2000000 := by omega
      rw [← hjj] at hlt ⊢
      have hmn : min (len - j) 4000 ≤ 4000 ∧ 1 ≤ min (len - j) 4000 ∧ j + min (len - j) 4000 ≤ len := by omega
      rw [← he] at hy
      clear hj hjd hbp hbq he hY hkc
      gi_wp2_with fail
      gi_region
      gi_wp2_with fail
      refine hR.mono ?_
      rintro e W3 (⟨rfl, hJ3, hk3⟩ | ⟨rfl, hJx3⟩)
      · have hs3 := hk3.size
        have HBP3 := Lib.hid (hk3.box (.inl rfl) (show Boxed wr.drew p _ _ from HBP.out))
        have HBQ3 := Lib.hid (hk3.box (.inr rfl) (show Boxed wr.drew q _ _ from HBQ.out))
        have hs4 : wr.heap.size ≤ W3.heap.size := hs3
        have hcq3 := HBQ3.out.cell
        clear hk3 hR hy hcp hcq HBP HBQ HE
        gi_wp2
        go_roundw
        case rel => exact ⟨k + 1, by go_num, HKC.out, hJ3, by omega, HBP3.out, HBQ3.out⟩
        case measure => simp [intOf]; omega
      · gi_wp2
        refine bodyPost_ret (results_none rfl _ _ _) rfl ?_
        exact ⟨⟨_, rfl⟩, .inr ⟨_, hJx3⟩⟩
    · have hkc : k = Vt.count len := by unfold Vt.count at hk ⊢; omega
      have HJ2 := Lib.hid hj
      have HKC := Lib.hid hkc
      clear hj hY hkc hk
      gi_wp2_with fail
      refine bodyPost_end (results_none rfl _ _ _) rfl ?_
      exact ⟨⟨_, rfl⟩, .inl ⟨List.range (Vt.count len), rfl, by simp [ToldC], by rw [← HKC.out]; exact HJ2.out⟩⟩

end Go.Proofs.Ytaljfpkgancidaa

namespace Go.Proofs.Ytaljfpkgancidaa
open Go.RowKit Go.Shelf Go.Maps
attribute [local go_sem] Oper.semAt_some

theorem chunk_any (a : Option Addr) (len cap : Nat) (w : World) :
    Calls Try.prog 25 #[.slice a len cap, .int .i64 4000] w fun e w' =>
      e = .returned (.func (.func 48) #[] #[.pointer (some ⟨w.heap.size, 0, none⟩), .pointer (some ⟨w.heap.size + 1, 0, none⟩)]) ∧
      Boxed w' w.heap.size 25 (.slice a len cap) ∧ Boxed w' (w.heap.size + 1) 3 (.int .i64 4000) ∧ Below w.heap.size w w' := by
  have hb0 : Below w.heap.size w ((w.alloc (.cells #[.slice a len cap] 25)).alloc (.cells #[.int .i64 4000] 3)) := ((Below.refl _ _).alloc (Nat.le_refl _) _).alloc (by simp) _
  have h1 : Boxed ((w.alloc (.cells #[.slice a len cap] 25)).alloc (.cells #[.int .i64 4000] 3)) w.heap.size 25 (.slice a len cap) := (Below.heap_alloc _ _ _ (by simp)).trans (heap_alloc_new w _)
  have h2 : Boxed ((w.alloc (.cells #[.slice a len cap] 25)).alloc (.cells #[.int .i64 4000] 3)) (w.heap.size + 1) 3 (.int .i64 4000) := by
    have h := heap_alloc_new (w.alloc (.cells #[.slice a len cap] 25)) (.cells #[.int .i64 4000] 3)
    rw [World.size_alloc] at h
    exact h
  have H1 := Lib.hid h1
  have H2 := Lib.hid h2
  have HB := Lib.hid hb0
  clear h1 h2 hb0
  go_enter Try.func25, Try.ntmps25
  go_wp2_with fail
  go_ret
  exact ⟨rfl, H1.out, H2.out, HB.out⟩

set_option maxRecDepth 100000 in
set_option maxHeartbeats 2000000 in
theorem appendSeq_any (B n : Nat) (xs : List Value) (va : Option Addr) (vc : Nat) (p q : Nat) (a : Option Addr) (len cap : Nat) (w : World) (hrow : w.ownsRow B 25 1 (.slice va n vc) n xs) (hBw : B ≤ w.heap.size) (hn : n ≤ 1000) (hlen : len ≤ 1000000) (hcap : len ≤ cap)
    (hp : Boxed w p 25 (.slice a len cap)) (hq : Boxed w q 3 (.int .i64 4000)) (hpr : (Value.slice va n vc).ownBlock ≠ some p) :
    Calls Try.prog 24 #[.slice va n vc, .func (.func 48) #[] #[.pointer (some ⟨p, 0, none⟩), .pointer (some ⟨q, 0, none⟩)]] w fun e w' =>
      ∃ v', e = .returned v' ∧ w'.ownsRow B 25 1 v' (n + Vt.count len) (xs ++ (List.range (Vt.count len)).map (chunkVal a len)) ∧ Below B w w' := by
  obtain ⟨i0, hi, hz0, hz1, hz2⟩ := info_parts infoSl
  have hpl := lt_of_block (show w.heap[p]? = _ from hp)
  have hql := lt_of_block (show w.heap[q]? = _ from hq)
  have hbA : Below w.heap.size w (w.alloc (.cells #[.slice va n vc] 60)) := (Below.refl _ _).alloc (Nat.le_refl _) _
  have HP := Lib.hid hp
  have HQ := Lib.hid hq
  have HROW := Lib.hid hrow
  have HPR := Lib.hid hpr
  have HBA := Lib.hid hbA
  clear hrow hpr hbA hp hq
  refine (callsIn_wide (n := 3)).1 ?_
  refine callsIn_of_wp_marks Try.func24 rfl trivial ?_ rfl
  simp only [Try.ntmps24, List.size_toArray, List.length_cons, List.length_nil, Nat.reduceAdd, Nat.reduceSub, Array.replicate_succ, Array.replicate_zero, List.push_toArray, List.append_toArray, List.nil_append, List.cons_append]
  gi_wp2_with fail
  refine range_told (by omega) (gf := 48) (lb := #[.pointer (some ⟨p, 0, none⟩), .pointer (some ⟨q, 0, none⟩)]) rfl (enters_of Try.func48 (by kernel_rfl) rfl)
    (encs := fun x => #[chunkVal a len x]) (Kp := KeepC p q) (T := ToldC) (S := fun xs => xs = List.range (Vt.count len)) (N := Vt.count len) (w0 := w)
    (fun l J Jx W hW hJ hJx hY h0 => chunk1_in (3 - 1) (by omega) l p q a len cap hlen hcap J Jx W hJ hY ((hW.block _ hpl).trans HP.out) ((hW.block _ hql).trans HQ.out) h0)
    (fun h k => h.trans k) (fun W l o o' _ h ho => KeepC.other W l o o' h ho) (ToldC.own _) HBA.out (fun _ => rfl)
    (fun pre W => (∃ u, Boxed W w.heap.size 60 u ∧ W.ownsRow B 25 1 u (n + pre.length) (xs ++ pre.map (chunkVal a len)) ∧ u.ownBlock ≠ some p) ∧ Below B w W ∧ w.heap.size + 1 ≤ W.heap.size ∧ Boxed W q 3 (.int .i64 4000))
    (fun _ _ _ => False)
    ?own (fun _ _ _ _ _ hs _ _ => hs) ⟨⟨_, heap_alloc_new w _, by simpa using HROW.out.alloc _, HPR.out⟩, HBA.out.mono hBw, by simp, (Below.heap_alloc _ _ _ hql).trans HQ.out⟩
    (fun x => { tmps := #[.slice va n vc, .func (.func 48) #[] #[.pointer (some ⟨p, 0, none⟩), .pointer (some ⟨q, 0, none⟩)], .pointer (some ⟨w.heap.size, 0, none⟩), undef, .slice none 0 0, chunkVal a len x, .func (.func 48) #[] #[.pointer (some ⟨p, 0, none⟩), .pointer (some ⟨q, 0, none⟩)], chunkVal a len x, undef, undef, undef, undef, undef], defers := [] }) ?assign ?body ?done ?stop
  case assign =>
    intro l x W K hK
    gi_wp2
    exact hK
  case own =>
    rintro s X Y row ⟨⟨u, hu, hrow, hup⟩, hB, hs, hqb⟩ hg hr
    have hr2 : ∀ r, row = some r → ∃ o : Obj, X.heap[r]? = some o ∧ o.isCells = false := fun r e => (hr r e).2
    obtain ⟨v2, hv2, hrow2, hG⟩ := holdsRow_own B w.heap.size 60 25 1 (fun pre : List Nat => n + pre.length) (fun pre => xs ++ pre.map (chunkVal a len)) (fun _ u => u.ownBlock ≠ some p) s X Y row ⟨u, hu, hrow, hup⟩ hg hr2
    have hsz := hg.size
    refine ⟨⟨v2, hv2, hrow2, hG⟩, hB.grown hg (Nat.le_trans hBw (by omega)) (fun k e => by have := (hr k e).1; simp at this; omega), by omega, (grownBy_keeps_cells hg hr2 hqb rfl).trans hqb⟩
  case body =>
    rintro l pre x W ⟨⟨u, hu, hrow, hup⟩, hB, hs, hqb⟩ hT hlt
    have hc := hu.cell
    have hf := hu.frozen
    have hcn : Vt.count len ≤ 1000 := by unfold Vt.count; omega
    obtain ⟨ua, uc, rfl, _⟩ := slice_shape hrow
    obtain ⟨ca, cl, cc, hcv⟩ : ∃ ca cl cc, chunkVal a len x = .slice ca cl cc := ⟨_, _, _, rfl⟩
    have HCV := Lib.hid hcv
    rw [hcv]
    clear hcv
    gi_wp2_with (gi_at_builtin; refine wpListIn_append_own_at _ rfl _ _ 60 rfl B 25 i0 (.slice none 0 0) 1 24 Try.underlying60 hi hz0 hz1 hz2 rfl (by decide) _ _ _ rfl (hrow.alloc _) ⟨W.heap.size, 0, none⟩ 1 1 [.slice ca cl cc] rfl rfl (cell_one_new _ _ _) (by simp [Value.oneCell']) (by unfold maxLen; omega) (by omega) (by simp; omega) ?_)
    intro v' w2 hown' hgrow _ hlies
    obtain ⟨vb, vcc, rfl, _⟩ := slice_shape hown'
    have hBW : B ≤ W.heap.size := Nat.le_trans hBw (by omega)
    obtain ⟨hv1, hv2, hrow', hko, hbl⟩ := hu.appended (by decide) hrow hBW hBw hown' hgrow
    have hqn : some q ≠ (Value.slice ua (n + pre.length) uc).ownBlock := hqb.not_row (by decide) hrow
    have hpk : ∀ k cs t fr, W.heap[k]? = some (.cells cs t fr) → (k = p ∨ k = q) → (w2.setCell ⟨w.heap.size, 0, none⟩ (.slice vb (n + pre.length + 1) vcc)).heap[k]? = W.heap[k]? := fun k cs t fr hk hkpq => by
      have hkl : k < w.heap.size := by rcases hkpq with rfl | rfl <;> assumption
      have hlt2 := lt_of_block hk
      have hne : some k ≠ (Value.slice ua (n + pre.length) uc).ownBlock := by
        rcases hkpq with rfl | rfl
        · exact fun e => hup e.symm
        · exact hqn
      rw [Below.heap_setCell _ _ _ _ (show k ≠ w.heap.size by omega), hgrow.block k (by simp; omega) hne, Below.heap_alloc _ _ _ hlt2]
    have hsz2 := hgrow.size
    have hsz3 := (KeepsOthers.setCell w2 ⟨w.heap.size, 0, none⟩ (.slice vb (n + pre.length + 1) vcc)).size
    simp only [World.size_alloc] at hsz2
    have hkc : KeepC p q W (w2.setCell ⟨w.heap.size, 0, none⟩ (.slice vb (n + pre.length + 1) vcc)) := ⟨by omega, hpk⟩
    have hup' : (Value.slice vb (n + pre.length + 1) vcc).ownBlock ≠ some p := by
      rcases hlies with h | h
      · rw [h]; exact hup
      · rw [h]
        simp
        omega
    have hq3 : Boxed (w2.setCell ⟨w.heap.size, 0, none⟩ (.slice vb (n + pre.length + 1) vcc)) q 3 (.int .i64 4000) := hkc.box (.inr rfl) hqb
    have hc1 := hv1.cell
    have hf1 := hv1.frozen
    have HKC := Lib.hid hkc
    have HKO := Lib.hid hko
    have HV2 := Lib.hid hv2
    have HR2 := Lib.hid hrow'
    have HUP := Lib.hid hup'
    have HQ3 := Lib.hid hq3
    have HBL := Lib.hid (hB.trans hbl)
    clear hown' hgrow hlies hkc hko hv1 hv2 hrow' hup' hq3 hbl hB hu hrow hup hqb hqn hpk hc hf
    gi_wp2
    refine ⟨HKO.out.from _, HKC.out, ⟨_, HV2.out, ?_, HUP.out⟩, HBL.out, by omega, HQ3.out⟩
    rw [List.length_append, List.length_singleton, ← Nat.add_assoc, List.map_append, List.map_singleton, HCV.out]
    exact HR2.out
  case stop =>
    rintro D c pre W _ h _
    exact h.elim
  case done =>
    rintro D ys W hD rfl hT ⟨⟨u, hu, hrow, hup⟩, hB, hs, hqb⟩ hK
    have hc := hu.cell
    have hD2 : w.heap.size + 1 ≤ D := by simpa using hD
    obtain ⟨ua, uc, rfl, _⟩ := slice_shape hrow
    rw [List.length_range] at hrow hc hu hup
    have HROW2 := Lib.hid hrow
    have HU := Lib.hid hu
    have HB := Lib.hid hB
    have HK := Lib.hid hK
    clear hrow hu hB hK hup hqb
    gi_wp2_with fail
    refine ⟨by simp, .inl ⟨_, _, rfl, run_takeDeferred HK.out, ?_⟩⟩
    refine ⟨.slice ua (n + Vt.count len) uc, by simp [results, Try.results24, go_sem], .slice ua (n + Vt.count len) uc, rfl, ?_, ?_⟩
    · refine own_same HROW2.out fun g cs fr hg hgc => World.putObj_heap_other fun e => ?_
      rw [e, HK.out] at hgc
      simp at hgc
    · exact HB.out.grown (grownBy_putObj' _ D (.deferred none)) (Nat.le_trans hBw (by omega)) (fun j e => by cases e; omega)

end Go.Proofs.Ytaljfpkgancidaa
