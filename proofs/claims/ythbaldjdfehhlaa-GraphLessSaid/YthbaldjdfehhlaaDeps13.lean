/- depsOf of package graph and its iterator, by their contracts: the Deps of all nodes of an Id, in order. -/
import Derived.Test.YthbaldjdfehhlaaValU13
import Derived.Sort.LoopGhostIn
namespace Go.Proofs.Ythbaldjdfehhlaa
open Go.RowKit Gr Go.Sort Go.Shelf
attribute [local go_sem] Oper.semAt_some

/-- the Deps of all nodes of an Id -/
def depList (l : List NodeV) (id : Int) : List Int := (l.map fun v => if v.id = id then v.deps else []).flatten
theorem depList_append (l m : List NodeV) (id : Int) : depList (l ++ m) id = depList l id ++ depList m id := by simp [depList]
theorem depList_at {l : List NodeV} {i : Nat} (h : i < l.length) (id : Int) : depList l id = depList (l.take i) id ++ ((if l[i].id = id then l[i].deps else []) ++ depList (l.drop (i + 1)) id) := by
  have hsp : l = l.take i ++ l[i] :: l.drop (i + 1) := by rw [← List.drop_eq_getElem_cons h, List.take_append_drop]
  have := congrArg (fun m => depList m id) hsp
  simp only [depList_append] at this
  rw [this]
  congr 1
theorem mem_depList {l : List NodeV} {id d : Int} : d ∈ depList l id ↔ ∃ v ∈ l, v.id = id ∧ d ∈ v.deps := by
  simp only [depList, List.mem_flatten, List.mem_map]
  constructor
  · rintro ⟨_, ⟨v, hv, rfl⟩, hd⟩
    split at hd
    · rename_i e; exact ⟨v, hv, e, hd⟩
    · cases hd
  · rintro ⟨v, hv, e, hd⟩
    exact ⟨_, ⟨v, hv, rfl⟩, by rw [if_pos e]; exact hd⟩

/-- what a round keeps: some blocks -/
structure KS (S : Nat → Prop) (W W' : World) : Prop where
  size : W.heap.size ≤ W'.heap.size
  same : ∀ k, S k → W'.heap[k]? = W.heap[k]?
theorem KS.trans {S : Nat → Prop} {A B C : World} (h : KS S A B) (k : KS S B C) : KS S A C := ⟨Nat.le_trans h.size k.size, fun i hi => (k.same i hi).trans (h.same i hi)⟩
theorem KS.put {S : Nat → Prop} (W : World) (l : Nat) (o : Obj) (h : ¬ S l) : KS S W (W.putObj l o) := ⟨by simp, fun k hk => World.putObj_heap_other (fun e => h (e ▸ hk))⟩
theorem KS.refl {S : Nat → Prop} (W : World) : KS S W W := ⟨Nat.le_refl _, fun _ _ => rfl⟩

/-- what is told: a beginning -/
def ToldP (zs : List Int) (pre : List Int) (_ : World) : Prop := pre <+: zs
theorem ToldP.own (zs : List Int) (B : Nat) : OwnFrom B (ToldP zs) := fun _ _ _ _ h _ _ => h

set_option maxRecDepth 100000 in
set_option maxHeartbeats 4000000 in
theorem depsOf1_in (n : Nat) (hn : 1 ≤ n) (y p1 p2 : Nat) (S : Nat → Prop) (a : Option Addr) (c : Nat) (l : List NodeV) (id : Int) (w0 : World) (hN : NodesF w0 a l) (hS : ∀ k, k < w0.heap.size → S k) (hS2 : S p2) (hlen : l.length ≤ 1000000) (hdl : ∀ v ∈ l, v.deps.length ≤ 1000000) (J Jx : List Int → World → Prop)
    (W : World) (hW : ∀ k, k < w0.heap.size → W.heap[k]? = w0.heap[k]?) (hSb : ∀ k, S k → k < W.heap.size) (hJ : AbidesFrom W.heap.size J) (hp2 : p2 < W.heap.size)
    (hY : ∀ pre x W1, J pre W1 → ToldP (depList l id) (pre ++ [x]) W1 → pre.length < (depList l id).length → YieldAt Fence.wide (n - 1) Try.prog y #[encU x] W1 fun e W' =>
      (e = .returned (.bool true) ∧ J (pre ++ [x]) W' ∧ KS S W1 W') ∨ (e = .returned (.bool false) ∧ Jx (pre ++ [x]) W'))
    (hb1 : W.cell? ⟨p1, 0, none⟩ = some (.slice a l.length c)) (hb2 : W.cell? ⟨p2, 0, none⟩ = some (.int .u64 id)) (h0 : J [] W) :
    CallsIn Fence.wide n Try.prog 45 #[.func (.yield y) #[] #[], .pointer (some ⟨p1, 0, none⟩), .pointer (some ⟨p2, 0, none⟩)] W fun e W' => (∃ v, e = .returned v) ∧
      ((∃ xs, xs = depList l id ∧ ToldP (depList l id) xs W' ∧ J xs W') ∨ ∃ pre, Jx pre W') := by
  obtain ⟨⟨g, q, ha, hc⟩, heach⟩ := hN
  have HA := Lib.hid ha
  have HC := Lib.hid hc
  have HE := Lib.hid heach
  have HD := Lib.hid hdl
  have HW := Lib.hid hW
  have HS := Lib.hid hS
  have HJ := Lib.hid hJ
  have HY := Lib.hid hY
  have HB2 := Lib.hid hb2
  clear ha hc heach hW hJ hY hdl hS hb2
  refine callsIn_of_wp Try.func45 rfl trivial ?_ rfl
  simp only [Try.ntmps45, List.size_toArray, List.length_cons, List.length_nil, Nat.reduceAdd, Nat.reduceSub, Array.replicate_succ, Array.replicate_zero, List.push_toArray, List.append_toArray, List.nil_append, List.cons_append]
  gi_wp2
  gi_loopw [10] (fun i wr => ∃ (k : Nat), i = .int .i64 (k : Int) ∧ k ≤ l.length ∧ J (depList (l.take k) id) wr ∧ KS S W wr ∧ W.heap.size ≤ wr.heap.size) (fun i wr => l.length - (intOf i).toNat)
  case atStart => exact ⟨0, rfl, Nat.zero_le _, by simpa [depList] using h0, KS.refl _, Nat.le_refl _⟩
  case round =>
    obtain ⟨k, rfl, hk, hj, hkb, hsz⟩ := hrel
    have HKB := Lib.hid hkb
    by_cases hlt : k < l.length
    · obtain ⟨hg, hc1, hc2⟩ := HC.out k hlt
      have ea := HA.out (by intro e; subst e; simp at hlt)
      cases ea
      have hbw : ∀ (W2 : World), KS S W W2 → ∀ (b o : Nat) v, b < w0.heap.size → w0.cell? ⟨b, o, none⟩ = some v → W2.cell? ⟨b, o, none⟩ = some v := fun W2 h2 b o v hb hv =>
        (World.cell?_of_block (w := w0) (a := ⟨b, o, none⟩) ((h2.same b (HS.out b hb)).trans (HW.out b hb))).trans hv
      have HBW := Lib.hid hbw
      have hd1 := hbw wr hkb g (q + k * 2) _ hg hc1
      have hd2 := hbw wr hkb g (q + k * 2 + 1) _ hg hc2
      have hi2 : wr.cell? ⟨p2, 0, none⟩ = some (.int .u64 id) := (World.cell?_of_block (w := W) (a := ⟨p2, 0, none⟩) (hkb.same p2 hS2)).trans HB2.out
      have hdat := depList_at hlt id
      have htk : l.take (k + 1) = l.take k ++ [l[k]] := List.take_succ_eq_append_getElem hlt
      have hd : decide ((k : Int) < (l.length : Int)) = true := by simp; omega
      have hv2 := HE.out l[k] (List.getElem_mem hlt)
      have hvd := HD.out l[k] (List.getElem_mem hlt)
      obtain ⟨⟨vid, vda, vdc, vdeps⟩, hx⟩ : ∃ x, l[k] = x := ⟨_, rfl⟩
      rw [hx] at hd1 hd2 htk hv2 hvd hdat
      simp only at hdat
      have hpl : p2 ≠ wr.heap.size := by omega
      have hjA : J (depList (l.take k) id) (wr.alloc (.cells #[.int .u64 vid, .slice vda vdeps.length vdc] 35)) := HJ.out _ wr _ none hj (World.grownBy_alloc wr _ none) (fun r e => by cases e)
      have hkbA : KS S W (wr.alloc (.cells #[.int .u64 vid, .slice vda vdeps.length vdc] 35)) := hkb.trans ⟨by simp, fun i hi => Below.heap_alloc _ _ _ (Nat.lt_of_lt_of_le (hSb i hi) hsz)⟩
      have hi2A : (wr.alloc (.cells #[.int .u64 vid, .slice vda vdeps.length vdc] 35)).cell? ⟨p2, 0, none⟩ = some (.int .u64 id) := Lib.cell?_alloc_some _ hi2
      have hszA : W.heap.size ≤ (wr.alloc (.cells #[.int .u64 vid, .slice vda vdeps.length vdc] 35)).heap.size := by simp; omega
      have HV2 := Lib.hid hv2
      have HJA := Lib.hid hjA
      have HKBA := Lib.hid hkbA
      have HDAT := Lib.hid hdat
      have hnext : depList (l.take (k + 1)) id = depList (l.take k) id ++ (if vid = id then vdeps else []) := by
        rw [htk, depList_append]
        simp [depList]
      have HNEXT := Lib.hid hnext
      clear hc1 hc2 htk hx hj hjA hkb hkbA hdat hv2 hbw hnext
      by_cases hid2 : vid = id
      · subst hid2
        gi_wp2
        clear hd hd1 hd2 hi2 hi2A
        gi_loopw [21] (fun i wr => ∃ (m : Nat), i = .int .i64 (m : Int) ∧ m ≤ vdeps.length ∧ J (depList (l.take k) vid ++ vdeps.take m) wr ∧ KS S W wr ∧ W.heap.size ≤ wr.heap.size) (fun i wr => vdeps.length - (intOf i).toNat)
        case atStart => exact ⟨0, rfl, Nat.zero_le _, by simpa using HJA.out, HKBA.out, hszA⟩
        case round =>
          clear HJA HKBA hszA HKB hsz
          obtain ⟨m, rfl, hm, hj, hkb, hsz⟩ := hrel
          have HKB := Lib.hid hkb
          by_cases hmt : m < vdeps.length
          · obtain ⟨⟨dg, dq, hda, hdc⟩, hdf⟩ := HV2.out.deps
            obtain ⟨hdg, hdx⟩ := hdc m hmt
            have ed := hda (by intro e; simp only at e; subst e; simp at hmt)
            simp only at ed
            cases ed
            have hd3 := HBW.out wr hkb dg (dq + m) _ hdg hdx
            have htk : vdeps.take (m + 1) = vdeps.take m ++ [vdeps[m]] := List.take_succ_eq_append_getElem hmt
            have hdr : vdeps = vdeps.take m ++ vdeps[m] :: vdeps.drop (m + 1) := by rw [← List.drop_eq_getElem_cons hmt, List.take_append_drop]
            have hdk : decide ((m : Int) < (vdeps.length : Int)) = true := by simp; omega
            have hpre : (depList (l.take k) vid ++ vdeps.take m) ++ [vdeps[m]] <+: depList l vid := by
              refine ⟨vdeps.drop (m + 1) ++ depList (l.drop (k + 1)) vid, ?_⟩
              rw [HDAT.out]
              simp only [if_true, List.append_assoc, List.singleton_append]
              congr 1
              rw [← List.cons_append, ← List.append_assoc, ← hdr]
            have hlen2 : (depList (l.take k) vid ++ vdeps.take m).length < (depList l vid).length := by
              have := hpre.length_le
              simp only [List.length_append, List.length_singleton] at this ⊢
              omega
            obtain ⟨fn, tmps, assign, body, hy, hR⟩ := HY.out _ vdeps[m] wr hj hpre hlen2
            rw [List.append_assoc, ← htk] at hR
            obtain ⟨d, hdd⟩ : ∃ d, vdeps[m] = d := ⟨_, rfl⟩
            simp only [hdd] at hd3 hy hR
            have HR := Lib.hid hR
            clear hda hdc hdf hdx hdd hdg htk hdr hpre hlen2 hR hj hkb
            gi_wp2_with fail
            refine HR.out.mono ?_
            rintro e W3 (⟨rfl, hJ3, hk3⟩ | ⟨rfl, hJx3⟩)
            · have hs3 := hk3.size
              have HK3 := Lib.hid (HKB.out.trans hk3)
              have HJ3 := Lib.hid hJ3
              clear hk3 hJ3 hy HR
              gi_wp2
              go_roundw
              case rel => exact ⟨m + 1, by go_num, by omega, HJ3.out, HK3.out, by omega⟩
              case measure => simp [intOf]; omega
            · gi_wp2
              refine bodyPost_ret (results_none rfl _ _ _) rfl ?_
              exact ⟨⟨_, rfl⟩, .inr ⟨_, hJx3⟩⟩
          · obtain rfl : m = vdeps.length := by omega
            have hdk : decide ((vdeps.length : Int) < (vdeps.length : Int)) = false := by simp
            rw [List.take_length] at hj
            have HJ4 := Lib.hid hj
            clear hj hkb
            gi_wp2_with fail
            go_roundw
            case rel => exact ⟨k + 1, by go_num, by omega, by rw [HNEXT.out]; simpa using HJ4.out, HKB.out, hsz⟩
            case measure => simp [intOf]; omega
      · gi_wp2
        go_roundw
        case rel => exact ⟨k + 1, by go_num, by omega, by rw [HNEXT.out, if_neg hid2, List.append_nil]; exact HJA.out, HKBA.out, hszA⟩
        case measure => simp [intOf]; omega
    · obtain rfl : k = l.length := by omega
      have hd : decide ((l.length : Int) < (l.length : Int)) = false := by simp
      rw [List.take_length] at hj
      have HJ2 := Lib.hid hj
      clear hj hkb
      gi_wp2_with fail
      refine bodyPost_end (results_none rfl _ _ _) rfl ?_
      exact ⟨⟨_, rfl⟩, .inl ⟨depList l id, rfl, List.prefix_refl _, HJ2.out⟩⟩

theorem depsOf_any (a : Option Addr) (n c : Nat) (id : Int) (w : World) :
    Calls Try.prog 28 #[.slice a n c, .int .u64 id] w fun e w' => e = .returned (.func (.func 45) #[] #[.pointer (some ⟨w.heap.size, 0, none⟩), .pointer (some ⟨w.heap.size + 1, 0, none⟩)]) ∧ w' = (w.alloc (.cells #[.slice a n c] 22)).alloc (.cells #[.int .u64 id] 23) := by
  go_enter Try.func28, Try.ntmps28
  go_wp2
  go_ret
  exact ⟨rfl, rfl⟩

end Go.Proofs.Ythbaldjdfehhlaa
