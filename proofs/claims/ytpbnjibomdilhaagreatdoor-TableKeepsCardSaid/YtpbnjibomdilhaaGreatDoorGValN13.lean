/- slices.Values and slices.Collect at []api.Node, by their contracts. -/
import Derived.Test.YtpbnjibomdilhaaGreatDoorGValU13
import Derived.Test.YtpbnjibomdilhaaGreatDoorMap
namespace Go.Proofs.YtpbnjibomdilhaaGreatDoor.Gph
open Go.RowKit Gr Go.Sort Go.Shelf
attribute [local go_sem] Oper.semAt_some

abbrev valN (v : NodeV) : Value := .agg #[.int .u64 v.id, .slice v.da v.deps.length v.dc]
abbrev boxN (v : NodeV) : Obj := .cells #[.int .u64 v.id, .slice v.da v.deps.length v.dc] 72
theorem infoNode : (Tryz.prog.info? 72).map (fun i => (i.zero, i.size, i.bytes)) = some (some (.agg #[.int .u64 0, .slice none 0 0]), 2, 32) := by kernel_rfl
def flatN (l : List NodeV) : List Value := (l.map encN).flatten
theorem flatN_snoc (l : List NodeV) (v : NodeV) : flatN (l ++ [v]) = flatN l ++ encN v := by simp [flatN]
theorem flatN_len (l : List NodeV) : (flatN l).length = l.length * 2 := by
  induction l with
  | nil => rfl
  | cons v l ih => simp only [flatN, List.map_cons, List.flatten_cons, List.length_append, List.length_cons] at ih ⊢; rw [ih]; simp [encN]; omega
theorem flatN_at {l : List NodeV} : ∀ {i : Nat} (h : i < l.length), (flatN l)[i * 2]? = some (.int .u64 l[i].id) ∧ (flatN l)[i * 2 + 1]? = some (.slice l[i].da l[i].deps.length l[i].dc) := by
  induction l with
  | nil => intro i h; simp at h
  | cons v l ih =>
    intro i h
    cases i with
    | zero => exact ⟨rfl, rfl⟩
    | succ i =>
      have := ih (i := i) (by simpa using h)
      rw [show (i + 1) * 2 = i * 2 + 2 by omega, show i * 2 + 2 + 1 = i * 2 + 1 + 2 by omega]
      exact this

/-- v holds just the nodes l, in a block from B on -/
structure RowN (B : Nat) (v : Value) (l : List NodeV) (W : World) : Prop where
  own : W.ownsRow B 72 2 v l.length (flatN l)
section
variable {B : Nat} {v : Value} {l : List NodeV} {W W' : World}
theorem RowN.shape (t : RowN B v l W) : ∃ a c, v = .slice a l.length c := by
  obtain ⟨a, c, h, _⟩ := slice_shape t.own
  exact ⟨a, c, h⟩
theorem RowN.read {a : Option Addr} {n c : Nat} (t : RowN B (.slice a n c) l W) (hf : ∀ v ∈ l, NodeF W v) : NodesF W a l ∧ l.length ≤ c ∧ c ≤ maxLen := by
  obtain ⟨h⟩ := t
  have h' := h
  rcases h.2 with ⟨e, hn⟩ | ⟨g, cap, cur, e, hB, hg, hc, hm, _⟩
  · cases e
    obtain rfl := List.eq_nil_of_length_eq_zero hn
    exact ⟨NodesF.nil _ _, Nat.zero_le _, Nat.zero_le _⟩
  · cases e
    refine ⟨⟨⟨g, 0, fun _ => rfl, fun i hi => ?_⟩, hf⟩, hc, hm⟩
    obtain ⟨h1, h2⟩ := flatN_at hi
    have hl := flatN_len l
    refine ⟨(Array.getElem?_eq_some_iff.1 hg).1, ?_, ?_⟩
    · rw [Nat.zero_add, h'.cellAt _ (by omega)]; exact h1
    · rw [Nat.zero_add, h'.cellAt _ (by omega)]; exact h2
theorem RowN.below (t : RowN B v l W) (hb : Below W.heap.size W W') : RowN B v l W' := by
  obtain ⟨h⟩ := t
  refine ⟨h.1, ?_⟩
  rcases h.2 with hn | ⟨g, cap, cur, rfl, hB, hg, rest⟩
  · exact .inl hn
  · exact .inr ⟨g, cap, cur, rfl, hB, (hb.block g (Array.getElem?_eq_some_iff.1 hg).1).trans hg, rest⟩
end

set_option maxRecDepth 100000 in
set_option maxHeartbeats 2000000 in
theorem valuesN1_in (n : Nat) (hn : 1 ≤ n) (y p B : Nat) (a : Option Addr) (c : Nat) (l : List NodeV) (w0 : World) (hN : NodesF w0 a l) (hB : B = w0.heap.size) (hlen : l.length ≤ 1000000) (J Jx : List NodeV → World → Prop)
    (W : World) (hW : KB B w0 W) (hJ : AbidesFrom W.heap.size J)
    (hY : ∀ pre x W1, J pre W1 → ToldOf l (pre ++ [x]) W1 → pre.length < l.length → YieldAt Fence.wide (n - 1) Tryz.prog y #[valN x] W1 fun e W' =>
      (e = .returned (.bool true) ∧ J (pre ++ [x]) W' ∧ KB B W1 W') ∨ (e = .returned (.bool false) ∧ Jx (pre ++ [x]) W'))
    (hp : W.cell? ⟨p, 0, none⟩ = some (.slice a l.length c)) (h0 : J [] W) :
    CallsIn Fence.wide n Tryz.prog 70 #[.func (.yield y) #[] #[], .pointer (some ⟨p, 0, none⟩)] W fun e W' => (∃ v, e = .returned v) ∧
      ((∃ xs, xs = l ∧ ToldOf l xs W' ∧ J xs W') ∨ ∃ pre, Jx pre W') := by
  obtain ⟨⟨g, q, ha, hc⟩, hfit⟩ := hN
  have HA := Lib.hid ha
  have HC := Lib.hid hc
  have HW := Lib.hid hW
  have HBB := Lib.hid hB
  have HJ := Lib.hid hJ
  clear ha hc hfit hW hB hJ
  refine callsIn_of_wp Tryz.func70 rfl trivial ?_ rfl
  simp only [Tryz.ntmps70, List.size_toArray, List.length_cons, List.length_nil, Nat.reduceAdd, Nat.reduceSub, Array.replicate_succ, Array.replicate_zero, List.push_toArray, List.append_toArray, List.nil_append, List.cons_append]
  gi_wp2
  gi_loopw [7] (fun i wr => ∃ (k : Nat), i = .int .i64 (k : Int) ∧ k ≤ l.length ∧ J (l.take k) wr ∧ KB B w0 wr) (fun i wr => l.length - (intOf i).toNat)
  case atStart => exact ⟨0, rfl, Nat.zero_le _, by simpa using h0, HW.out⟩
  case round =>
    obtain ⟨k, rfl, hk, hj, hkb⟩ := hrel
    by_cases hlt : k < l.length
    · obtain ⟨hg, hc1, hc2⟩ := HC.out k hlt
      have ea := HA.out (by intro e; subst e; simp at hlt)
      cases ea
      have hd1 := (hkb.cell (p := ⟨g, q + k * 2, none⟩) (by rw [HBB.out]; exact hg)).trans hc1
      have hd2 := (hkb.cell (p := ⟨g, q + k * 2 + 1, none⟩) (by rw [HBB.out]; exact hg)).trans hc2
      have htk : l.take (k + 1) = l.take k ++ [l[k]] := List.take_succ_eq_append_getElem hlt
      have hd : decide ((k : Int) < (l.length : Int)) = true := by simp; omega
      obtain ⟨x, hx⟩ : ∃ x, l[k] = x := ⟨_, rfl⟩
      rw [hx] at hd1 hd2 htk
      have hjA : J (l.take k) (wr.alloc (boxN x)) := HJ.out _ wr _ none hj (World.grownBy_alloc wr _ none) (fun r e => by cases e)
      have hkbA : KB B w0 (wr.alloc (boxN x)) := hkb.trans ⟨by simp, fun i hi => Below.heap_alloc _ _ _ (Nat.lt_of_lt_of_le (by rw [← HBB.out]; exact hi) hkb.size)⟩
      obtain ⟨fn, tmps, assign, body, hy, hR⟩ := hY (l.take k) x (wr.alloc (boxN x)) hjA (by rw [← htk]; exact toldOf_take _ _ _) (by rw [List.length_take]; omega)
      rw [← htk] at hR
      have HKB := Lib.hid hkbA
      have HR := Lib.hid hR
      clear hc1 hc2 htk hx hkb hkbA hj hjA hR hY
      gi_wp2_with fail
      refine HR.out.mono ?_
      rintro e W3 (⟨rfl, hJ3, hk3⟩ | ⟨rfl, hJx3⟩)
      · have HK3 := Lib.hid (HKB.out.trans hk3)
        have HJ3 := Lib.hid hJ3
        clear hk3 hJ3 hy HR
        gi_wp2
        go_roundw
        case rel => exact ⟨k + 1, by go_num, by omega, HJ3.out, HK3.out⟩
        case measure => simp [intOf]; omega
      · gi_wp2
        refine bodyPost_ret (results_none rfl _ _ _) rfl ?_
        exact ⟨⟨_, rfl⟩, .inr ⟨_, hJx3⟩⟩
    · obtain rfl : k = l.length := by omega
      have hd : decide ((l.length : Int) < (l.length : Int)) = false := by simp
      rw [List.take_length] at hj
      have HJ2 := Lib.hid hj
      clear hj hY
      gi_wp2_with fail
      refine bodyPost_end (results_none rfl _ _ _) rfl ?_
      exact ⟨⟨_, rfl⟩, .inl ⟨l, rfl, fun i h => ⟨h, rfl⟩, HJ2.out⟩⟩

theorem valuesN_any (a : Option Addr) (n c : Nat) (w : World) :
    Calls Tryz.prog 55 #[.slice a n c] w fun e w' => e = .returned (.func (.func 70) #[] #[.pointer (some ⟨w.heap.size, 0, none⟩)]) ∧ w' = w.alloc (.cells #[.slice a n c] 47) := by
  go_enter Tryz.func55, Tryz.ntmps55
  go_wp2
  go_ret
  exact ⟨rfl, rfl⟩

theorem cells_new (w : World) (cs : List Value) (t : TypeId) : ∀ j u, cs[j]? = some u → (w.alloc (.cells cs.toArray t)).cell? ((⟨w.heap.size, 0, none⟩ : Addr).add j) = some u := by
  intro j u hj
  rw [show ((⟨w.heap.size, 0, none⟩ : Addr).add j) = ⟨w.heap.size, j, none⟩ by unfold Addr.add; split <;> simp_all, cell_of_row _ _ j _ _ _ (heap_alloc_new w _)]
  simpa using hj

set_option maxRecDepth 100000 in
set_option maxHeartbeats 2000000 in
theorem appendSeqN_any (p : Nat) (a : Option Addr) (c : Nat) (l : List NodeV) (w : World) (hp : w.cell? ⟨p, 0, none⟩ = some (.slice a l.length c)) (hN : NodesF w a l) (hsz : l.length ≤ 1000000) :
    Calls Tryz.prog 88 #[.slice none 0 0, .func (.func 70) #[] #[.pointer (some ⟨p, 0, none⟩)]] w fun e w' =>
      ∃ v, e = .returned v ∧ RowN w.heap.size v l w' ∧ Below w.heap.size w w' := by
  obtain ⟨i0, hi, hz0, hz1, hz2⟩ := info_parts infoNode
  have hbA : Below w.heap.size w (w.alloc (.cells #[.slice none 0 0] 47)) := (Below.refl _ _).alloc (Nat.le_refl _) _
  have hpl : p < w.heap.size := World.block_lt_of_cell? w ⟨p, 0, none⟩ hp
  have HP := Lib.hid hp
  have HZ := Lib.hid hN
  have HBA := Lib.hid hbA
  clear hbA hp hN
  refine (callsIn_wide (n := 3)).1 ?_
  refine callsIn_of_wp_marks Tryz.func88 rfl trivial ?_ rfl
  simp only [Tryz.ntmps88, List.size_toArray, List.length_cons, List.length_nil, Nat.reduceAdd, Nat.reduceSub, Array.replicate_succ, Array.replicate_zero, List.push_toArray, List.append_toArray, List.nil_append, List.cons_append]
  gi_wp2_with fail
  refine range_told_box (by omega) (gf := 70) (lb := #[.pointer (some ⟨p, 0, none⟩)]) rfl (enters_of Tryz.func70 (by kernel_rfl) rfl)
    (encs := fun x => #[valN x]) (Kp := KB w.heap.size) (T := ToldOf l) (S := fun xs => xs = l) (N := l.length) (w0 := w)
    (fun y J Jx W hW hJ hJx hY h0 => valuesN1_in (3 - 1) (by omega) y p w.heap.size a c l w HZ.out rfl hsz J Jx W (KB.of_below hW) hJ hY ((hW.cell (p := ⟨p, 0, none⟩) hpl).trans HP.out) h0)
    (fun h k => h.trans k) (fun W y R o' hl _ => KB.put W y o' (by simp at hl; omega)) boxN ?kalloc (ToldOf.own l _) HBA.out (fun _ => rfl)
    (fun pre W => (∃ u, Boxed W w.heap.size 47 u ∧ W.ownsRow w.heap.size 72 2 u pre.length (flatN pre) ∧ True) ∧ Below w.heap.size w W ∧ w.heap.size + 1 ≤ W.heap.size ∧ pre.length ≤ l.length)
    (fun _ _ _ => False)
    ?own (fun _ _ _ _ _ hs _ _ => hs) ⟨⟨_, heap_alloc_new w _, World.ownsRow_nil _ _ _ _, trivial⟩, HBA.out, by simp, Nat.zero_le _⟩
    (fun x k => { tmps := #[.slice none 0 0, .func (.func 70) #[] #[.pointer (some ⟨p, 0, none⟩)], .pointer (some ⟨w.heap.size, 0, none⟩), undef, .slice none 0 0, .pointer (some ⟨k, 0, none⟩), .func (.func 70) #[] #[.pointer (some ⟨p, 0, none⟩)], valN x, undef, undef, undef, undef, undef], defers := [] }) ?assign ?body ?done ?stop
  case kalloc => exact fun W ob hW => ⟨by simp, fun k hk => Below.heap_alloc _ _ _ (by simp at hW; omega)⟩
  case assign =>
    intro y x W K hK
    gi_wp2
    exact hK
  case own =>
    rintro s X Y row ⟨⟨u, hu, hrow, _⟩, hB, hs, hlen⟩ hg hr
    have hr2 : ∀ r, row = some r → ∃ o : Obj, X.heap[r]? = some o ∧ o.isCells = false := fun r e => (hr r e).2
    obtain ⟨v2, hv2, hrow2, hG⟩ := holdsRow_own w.heap.size w.heap.size 47 72 2 (fun pre : List NodeV => pre.length) flatN (fun _ _ => True) s X Y row ⟨u, hu, hrow, trivial⟩ hg hr2
    have hsz := hg.size
    exact ⟨⟨v2, hv2, hrow2, hG⟩, hB.grown hg (Nat.le_trans (Nat.le_refl _) (by omega)) (fun k e => by have := (hr k e).1; simp at this; omega), by omega, hlen⟩
  case body =>
    rintro y pre x W k ⟨⟨u, hu, hrow, _⟩, hB, hs, hlen⟩ _ hlt hk hbox
    have hc := hu.cell
    have hf := hu.frozen
    have hx0 := cell_of_row W k 0 _ _ _ hbox
    have hx1 := cell_of_row W k 1 _ _ _ hbox
    simp only [List.getElem?_toArray, List.getElem?_cons_zero, List.getElem?_cons_succ] at hx0 hx1
    obtain ⟨ua, uc, rfl, _⟩ := slice_shape hrow
    have hfl := flatN_len pre
    gi_wp2_with (gi_at_builtin; refine wpListIn_append_own_at _ rfl _ _ 47 rfl w.heap.size 72 i0 (.agg #[.int .u64 0, .slice none 0 0]) 2 32 Tryz.underlying47 hi hz0 hz1 hz2 rfl (by decide) _ _ _ rfl (hrow.alloc _) ⟨W.heap.size, 0, none⟩ 1 1 (encN x) rfl rfl (cells_new W (encN x) _) (by intro u hu; simp [encN] at hu; rcases hu with rfl | rfl <;> rfl) (by unfold maxLen; omega) (by omega) (by simp; omega) ?_)
    intro v' w2 hown' hgrow _ hlies
    obtain ⟨vb, vcc, rfl, _⟩ := slice_shape hown'
    have hBW : w.heap.size ≤ W.heap.size := by omega
    obtain ⟨hv1, hv2, hrow', hko, hbl⟩ := hu.appended (by decide) hrow hBW (Nat.le_refl _) hown' hgrow
    have hsz2 := hgrow.size
    have hsz3 := (KeepsOthers.setCell w2 ⟨w.heap.size, 0, none⟩ (.slice vb (pre.length + 1) vcc)).size
    simp only [World.size_alloc] at hsz2
    have hc1 := hv1.cell
    have hf1 := hv1.frozen
    have HKO := Lib.hid hko
    have HV2 := Lib.hid hv2
    have HR2 := Lib.hid hrow'
    have HKB := Lib.hid (KB.of_below hbl)
    have HBL := Lib.hid (hB.trans hbl)
    clear hown' hgrow hlies hko hv1 hv2 hrow' hbl hB hu hrow hc hf
    gi_wp2
    refine ⟨HKO.out.from _, HKB.out, ⟨_, HV2.out, ?_, trivial⟩, HBL.out, by omega, by simp; omega⟩
    rw [List.length_append, List.length_singleton, flatN_snoc]
    exact HR2.out
  case stop =>
    rintro D c pre W _ h _
    exact h.elim
  case done =>
    rintro Db ys W hD rfl _ ⟨⟨u, hu, hrow, _⟩, hB, hs, hlen⟩ hK
    have hc := hu.cell
    have hD2 : w.heap.size + 1 ≤ Db := by simpa using hD
    obtain ⟨ua, uc, rfl, _⟩ := slice_shape hrow
    have HROW2 := Lib.hid hrow
    have HU := Lib.hid hu
    have HB := Lib.hid hB
    have HK := Lib.hid hK
    clear hrow hu hB hK
    gi_wp2_with fail
    refine ⟨by simp, .inl ⟨_, _, rfl, run_takeDeferred HK.out, ?_⟩⟩
    refine ⟨.slice ua ys.length uc, by simp [results, Tryz.results88, go_sem], .slice ua ys.length uc, rfl, ⟨?_⟩, ?_⟩
    · refine own_same HROW2.out fun g cs fr hg hgc => World.putObj_heap_other fun e => ?_
      rw [e, HK.out] at hgc
      simp at hgc
    · exact HB.out.grown (grownBy_putObj' _ Db (.deferred none)) (by omega) (fun j e => by cases e; omega)

theorem collectN_any (p : Nat) (a : Option Addr) (c : Nat) (l : List NodeV) (w : World) (hp : w.cell? ⟨p, 0, none⟩ = some (.slice a l.length c)) (hN : NodesF w a l) (hsz : l.length ≤ 1000000) :
    Calls Tryz.prog 68 #[.func (.func 70) #[] #[.pointer (some ⟨p, 0, none⟩)]] w fun e w' =>
      ∃ v, e = .returned v ∧ RowN w.heap.size v l w' ∧ Below w.heap.size w w' := by
  have HC := Lib.hid (appendSeqN_any p a c l w hp hN hsz)
  clear hp hN
  go_enter Tryz.func68, Tryz.ntmps68
  go_wp2_with fail
  refine HC.out.mono ?_
  rintro e w1 ⟨v, rfl, hrow, hb⟩
  obtain ⟨va, vc, rfl⟩ := hrow.shape
  go_wp2_with fail
  go_ret
  exact ⟨_, rfl, hrow, hb⟩

end Go.Proofs.YtpbnjibomdilhaaGreatDoor.Gph
