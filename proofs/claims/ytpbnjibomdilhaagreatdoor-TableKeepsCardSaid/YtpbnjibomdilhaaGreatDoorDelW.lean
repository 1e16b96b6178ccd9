/- rowWith's closure; IndexFunc, DeleteFunc at nodes, by their contracts. -/
import Derived.Test.YtpbnjibomdilhaaGreatDoorMar
namespace Go.Proofs.YtpbnjibomdilhaaGreatDoor.Job
open Go.RowKit Go.Maps Gph

set_option maxRecDepth 100000 in
theorem is_any (v : NodeV) (j : J) (B : Nat) (w : World) (hB : w.heap[B]? = some (jobj j)) :
    Calls Tryz.prog 44 #[.agg #[.int .u64 v.id, .slice v.da v.deps.length v.dc], .pointer (some ⟨B, 0, none⟩)] w fun e w' => e = .returned (.bool (v.id == j.id)) ∧ Below w.heap.size w w' := by
  have hb0 : Below w.heap.size w (w.alloc (.cells #[.int .u64 v.id, .slice v.da v.deps.length v.dc] 72)) := (Below.refl _ _).alloc (Nat.le_refl _) _
  obtain ⟨⟨c0, -, -, -, -, -⟩, -⟩ := jobj_cells ((hb0.block _ (lt_of_block hB)).trans hB)
  have HB0 := Lib.hid hb0
  clear hb0 hB
  go_enter Tryz.func44, Tryz.ntmps44
  go_wp2
  go_ret
  exact ⟨by simp, HB0.out⟩

/-- where the first one of that number stands -/
def IdxAt (l : List NodeV) (id : Int) (r : Int) : Prop := (∃ (i : Nat) (h : i < l.length), r = (i : Int) ∧ l[i].id = id ∧ ∀ k (hk : k < l.length), k < i → l[k].id ≠ id) ∨ (r = -1 ∧ ∀ k (hk : k < l.length), l[k].id ≠ id)
set_option maxRecDepth 100000 in
set_option maxHeartbeats 1000000 in
theorem index_any {w : World} {a : Option Addr} {l : List NodeV} {c : Nat} (hN : NodesF w a l) (hl : l.length ≤ 1000000) (j : J) (B : Nat) (hB : w.heap[B]? = some (jobj j)) :
    Calls Tryz.prog 65 #[.slice a l.length c, .func (.func 44) #[] #[.pointer (some ⟨B, 0, none⟩)]] w fun e w' => ∃ r : Int, e = .returned (.int .i64 r) ∧ IdxAt l j.id r ∧ Below w.heap.size w w' := by
  obtain ⟨⟨b, q, ha, hc⟩, hfit⟩ := hN
  have HA := Lib.hid ha
  have HC := Lib.hid hc
  have HJ := Lib.hid hB
  have HLL := Lib.hid hl
  clear ha hc hfit hB hl
  go_enter Tryz.func65, Tryz.ntmps65
  go_wp2
  go_loopw [8] (fun v wr => Below w.heap.size w wr ∧ ∃ i : Nat, v = .int .i64 (i : Int) ∧ i ≤ l.length ∧ ∀ k (hk : k < l.length), k < i → l[k].id ≠ j.id) (fun v _ => l.length - (intOf v).toNat)
  case atStart => exact ⟨Below.refl _ _, 0, rfl, Nat.zero_le _, fun j _ hj => absurd hj (by omega)⟩
  case round =>
    obtain ⟨hb, i, rfl, hi, hall⟩ := hrel
    have HALL := Lib.hid hall
    have HB := Lib.hid hb
    have hb1 : (i : Int) ≤ 1000000 := by have := HLL.out; omega
    clear hall hb
    by_cases hlt : i < l.length
    · obtain ⟨hg, hc1, hc2⟩ := HC.out i hlt
      have ea := HA.out (by intro e; subst e; simp at hlt)
      cases ea
      have hd1 := (HB.out.cell (p := ⟨b, q + i * 2, none⟩) hg).trans hc1
      have hd2 := (HB.out.cell (p := ⟨b, q + i * 2 + 1, none⟩) hg).trans hc2
      have hd : decide ((i : Int) < (l.length : Int)) = true := by simp; omega
      obtain ⟨v, hv⟩ : ∃ v, l[i] = v := ⟨_, rfl⟩
      have HCALL := Lib.hid (is_any v j B wr ((HB.out.block _ (lt_of_block HJ.out)).trans HJ.out))
      rw [hv] at hd1 hd2
      have HV := Lib.hid hv
      clear hv hc1 hc2 hg
      go_wp2_with fail
      refine HCALL.out.mono ?_
      rintro e w' ⟨rfl, hb'⟩
      have HB' := Lib.hid (HB.out.trans (hb'.mono HB.out.size))
      clear hb' HCALL hd1 hd2
      cases hq : (v.id == j.id) with
      | true =>
        have HQ := Lib.hid (show v.id = j.id by simpa using hq)
        clear hq
        go_wp2
        go_ret
        exact ⟨(i : Int), rfl, .inl ⟨i, hlt, rfl, by rw [HV.out]; exact HQ.out, HALL.out⟩, HB'.out⟩
      | false =>
        have HQ := Lib.hid (show v.id ≠ j.id by simpa using hq)
        clear hq
        go_wp2
        go_roundw
        case rel => exact ⟨HB'.out, i + 1, by go_num, by omega, fun k hk hki => by
          rcases Nat.lt_or_ge k i with h1 | h1
          · exact HALL.out k hk h1
          · obtain rfl : k = i := by omega
            rw [HV.out]
            exact HQ.out⟩
        case measure => simp [intOf]; omega
    · have hd : decide ((i : Int) < (l.length : Int)) = false := by simp; omega
      go_wp2
      go_ret
      exact ⟨-1, rfl, .inr ⟨rfl, fun k hk => HALL.out k hk (by omega)⟩, HB.out⟩

theorem run_clear2 {g o n c : Nat} {w : World} {cs : Array Value} (hg : w.heap[g]? = some (.cells cs 72 (0, 0))) (ho : o + 1 < cs.size) (hn : n = 1) (ty : TypeId) :
    (Builtin.clear_ #[47] ty #[.slice (some ⟨g, o, none⟩) n c]).run Tryz.prog w = .ok (.tuple #[]) (w.setCells g o [.int .u64 0, .slice none 0 0]) := by
  subst hn
  have hv : ∀ w, (zeroValue 72).run Tryz.prog w = .ok (.agg #[.int .u64 0, .slice none 0 0]) w := fun w => by kernel_rfl
  have hst := run_storeCells_cells (P := Tryz.prog) g o [.int .u64 0, .slice none 0 0] 0 w (fun j hj => by
    rw [cell_of_row _ _ _ _ _ _ hg]
    simp at hj ⊢; omega) (fun j hj => by simp [World.frozen?, hg]) (by intro v hv'; simp at hv'; rcases hv' with rfl | rfl <;> rfl)
  simp only [Nat.add_zero] at hst
  have hzc : (Builtin.zeroCells (Value.agg #[.int .u64 0, .slice none 0 0]).cells 1).toList = [.int .u64 0, .slice none 0 0] := by simp [Builtin.zeroCells, Value.cells]; rfl
  simp [Builtin.clear_, run_underlying Tryz.underlying47, hv, hzc, hst]
theorem clear2_heap {w : World} {g o : Nat} : ∀ i, i ≠ g → (w.setCells g o [.int .u64 0, .slice none 0 0]).heap[i]? = w.heap[i]? := fun i hi => by
  simp only [World.setCells]
  rw [Below.heap_setCell _ _ _ _ hi, Below.heap_setCell _ _ _ _ hi]
theorem erase_filter {l : List NodeV} {i : Nat} {id : Int} (hi : i < l.length) (hid : l[i].id = id) (hu : ∀ i k (hi : i < l.length) (hk : k < l.length), l[i].id = id → l[k].id = id → i = k) : l.eraseIdx i = l.filter (fun x => !(x.id == id)) := by
  induction l generalizing i with
  | nil => simp at hi
  | cons x l ih =>
    cases i with
    | zero =>
      rw [List.getElem_cons_zero] at hid
      rw [List.eraseIdx_zero, List.tail_cons, List.filter_cons_of_neg (by simp [hid]), filter_all]
      intro y hy
      obtain ⟨k, hk, rfl⟩ := List.getElem_of_mem hy
      have := hu 0 (k + 1) (by simp) (by simpa using hk) (by simpa using hid)
      simp only [Bool.not_eq_true', beq_eq_false_iff_ne, ne_eq]
      intro e
      have := this (by simpa using e)
      omega
    | succ i =>
      have hxi : x.id ≠ id := fun e => by
        have := hu 0 (i + 1) (by simp) hi (by simpa using e) hid
        omega
      rw [List.eraseIdx_cons_succ, List.filter_cons_of_pos (by simpa using hxi)]
      rw [ih (by simpa using hi) (by simpa using hid) fun a b ha hb h1 h2 => by
        have := hu (a + 1) (b + 1) (by simpa using ha) (by simpa using hb) (by simpa using h1) (by simpa using h2)
        omega]

set_option maxRecDepth 100000 in
set_option maxHeartbeats 2000000 in
/-- the one of that number is gone, if there is one -/
theorem del_any {w : World} {B : Nat} {a : Option Addr} {l : List NodeV} {c : Nat} (hr : RowN B (.slice a l.length c) l w) (he : ∀ v ∈ l, NodeF w v) (hl : l.length ≤ 1000000) (j : J) (K : Nat) (hK : w.heap[K]? = some (jobj j)) (hKB : K < B)
    (hu : ∀ i k (hi : i < l.length) (hk : k < l.length), l[i].id = j.id → l[k].id = j.id → i = k) :
    Calls Tryz.prog 43 #[.slice a l.length c, .func (.func 44) #[] #[.pointer (some ⟨K, 0, none⟩)]] w fun e w' => ∃ v l', e = .returned v ∧ RowN B v l' w' ∧ l' = l.filter (fun x => !(x.id == j.id)) ∧ w.grownBy w' (Value.slice a l.length c).ownBlock := by
  have hix := index_any (c := c) (hr.read he).1 hl j K hK
  have HIX := Lib.hid hix
  have HR := Lib.hid hr
  have HK := Lib.hid hK
  have HL := Lib.hid hl
  have HU := Lib.hid hu
  have HKB := Lib.hid hKB
  clear hix hr hK hl hu he
  go_enter Tryz.func43, Tryz.ntmps43
  go_wp2_with fail
  refine HIX.out.mono ?_
  rintro e w1 ⟨r, rfl, hidx, hb1⟩
  clear HIX
  rcases hidx with ⟨i, hi, rfl, hid, hfirst⟩ | ⟨rfl, hall⟩
  · obtain ⟨g, rfl, hcp, hBg, hcm, -⟩ := CopyC.of HR.out (by omega)
    have hcp1 : CopyC g c (gone l i i) w1 := by rw [gone_first hi]; exact hcp.same (hb1.block _ hcp.lt)
    have hbeq : ((i : Int) == -1) = false := by simp
    have hbi0 : (0 : Int) ≤ i := by omega
    have hbi1 : (i : Int) ≤ 1000000 := by have := HL.out; omega
    have HCP := Lib.hid hcp
    have HCP1 := Lib.hid hcp1
    have HB1 := Lib.hid (grown_below hb1 (some g))
    have HID := Lib.hid hid
    have HBG := Lib.hid hBg
    have HCM := Lib.hid hcm
    obtain ⟨i1, hi1⟩ : ∃ i1 : Nat, i1 = i + 1 := ⟨_, rfl⟩
    have hcast : (i : Int) + 1 = (i1 : Int) := by omega
    have HI1 := Lib.hid hi1
    have HCAST := Lib.hid hcast
    clear hcp hcp1 hb1 hid hBg hcm hfirst hi1 hcast
    go_wp2_with fail
    rw [HCAST.out]
    go_loopw [5, 6] (fun v5 v6 wr => ∃ (q p : Nat), v5 = .int .i64 (q : Int) ∧ v6 = .int .i64 (p : Int) ∧ Hid (p = q + 1) ∧ i ≤ q ∧ q < l.length ∧ CopyC g c (gone l i q) wr ∧ w.grownBy wr (some g))
      (fun _ v6 _ => l.length - (intOf v6).toNat)
    case atStart => exact ⟨i, i1, rfl, rfl, HI1, Nat.le_refl _, hi, HCP1.out, HB1.out⟩
    case round =>
      obtain ⟨q, p, rfl, rfl, hp, hiq, hq, hcp, hgb⟩ := hrel
      have HGB := Lib.hid hgb
      by_cases hlt : p < l.length
      · have hd : decide ((p : Int) < (l.length : Int)) = true := by simp; omega
        have hlen : (gone l i q).length = l.length := gone_len hi hq
        have hgl : (gone l i q)[p]? = some l[p] := gone_at hi hlt (by have := hp.out; omega)
        obtain ⟨x, hx⟩ : ∃ x, l[p] = x := ⟨_, rfl⟩
        have hxn : x.id ≠ j.id := fun e => by
          have := HU.out i p hi hlt HID.out (by rw [hx]; exact e)
          have := hp.out
          omega
        rw [hx] at hgl
        obtain ⟨hpl, hge⟩ := List.getElem?_eq_some_iff.1 hgl
        have hcell := hcp.at_ hpl
        rw [hge] at hcell
        obtain ⟨c0, c1⟩ := hcell
        have hkw : wr.heap[K]? = some (jobj j) := (hgb.block K (lt_of_block HK.out) (by have := HKB.out; have := HBG.out; simp; omega)).trans HK.out
        have HCALL := Lib.hid (is_any x j K (wr.alloc (.cells #[.int .u64 x.id, .slice x.da x.deps.length x.dc] 72)) ((Below.heap_alloc _ _ _ (lt_of_block hkw)).trans hkw))
        rw [show (x.id == j.id) = false by simpa using hxn] at HCALL
        have hqp := hp.out
        have hbp0 : (0 : Int) ≤ p := by omega
        have hbp1 : (p : Int) ≤ 1000000 := by have := HL.out; omega
        have hbq0 : (0 : Int) ≤ q := by omega
        have hbq1 : (q : Int) ≤ 1000000 := by have := HL.out; omega
        have hstep : (gone l i q).set q x = gone l i p := by
          have := gone_step (l := l) hiq (by omega : q + 1 < l.length)
          have e2 : l[q + 1]'(by omega) = x := by rw [← hx]; congr 1; omega
          rw [e2] at this
          rw [this, hqp]
        have HST := Lib.hid hstep
        have HCPR := Lib.hid hcp
        have HLEN := Lib.hid hlen
        clear hgl hx hxn hpl hge hkw hqp hstep hcp hgb hlen
        go_wp2_with fail
        refine HCALL.out.mono ?_
        rintro e w3 ⟨rfl, hb3⟩
        have hb3w : Below wr.heap.size wr w3 := ((Below.refl _ _).alloc (Nat.le_refl _) _).trans (hb3.mono (by simp))
        have hbox : w3.heap[wr.heap.size]? = some (.cells #[.int .u64 x.id, .slice x.da x.deps.length x.dc] 72) := (hb3.block _ (by simp)).trans (heap_alloc_new wr _)
        have hcp3 := HCPR.out.same (hb3w.block _ HCPR.out.lt)
        obtain ⟨e0, e1⟩ := hcp3.at_ (j := q) (by rw [HLEN.out]; exact hq)
        have f0 := hcp3.free (q * 2)
        have f1 := hcp3.free (q * 2 + 1)
        have b0 := cell_of_row w3 wr.heap.size 0 _ _ _ hbox
        have b1 := cell_of_row w3 wr.heap.size 1 _ _ _ hbox
        simp only [List.getElem?_toArray, List.getElem?_cons_zero, List.getElem?_cons_succ] at b0 b1
        have hput := hcp3.put (j := q) x
        rw [HST.out] at hput
        have hgb3 : w.grownBy ((w3.setCell ⟨g, q * 2, none⟩ (.int .u64 x.id)).setCell ⟨g, q * 2 + 1, none⟩ (.slice x.da x.deps.length x.dc)) (some g) := by
          have h1 := (HGB.out).trans (grown_below hb3w (some g))
          exact ⟨h1.os, h1.tape, h1.output, by simpa [World.setCell] using h1.size, fun k hk hne => by
            have hkg : k ≠ g := fun e => hne (by rw [e])
            rw [Below.heap_setCell _ _ _ _ hkg, Below.heap_setCell _ _ _ _ hkg]
            exact h1.block k hk hne⟩
        have HPUT := Lib.hid hput
        have HGB3 := Lib.hid hgb3
        obtain ⟨p1, hp1⟩ : ∃ p1 : Nat, p1 = p + 1 := ⟨_, rfl⟩
        have hcast1 : (p : Int) + 1 = (p1 : Int) := by omega
        have hcast2 : (q : Int) + 1 = (p : Int) := by have := hp.out; omega
        have HP1 := Lib.hid hp1
        have HC1 := Lib.hid hcast1
        have HC2 := Lib.hid hcast2
        obtain ⟨y0, hy0⟩ : ∃ y, (gone l i q)[q]'(by rw [HLEN.out]; exact hq) = y := ⟨_, rfl⟩
        rw [hy0] at e0 e1
        clear hb3 hb3w hbox hcp3 hput hgb3 hp1 hcast1 hcast2 HCALL c0 c1 hy0
        go_wp2
        rw [HC1.out, HC2.out]
        go_roundw
        case rel => exact ⟨p, p1, rfl, rfl, HP1, by have := hp.out; omega, hlt, HPUT.out, HGB3.out⟩
        case measure => simp [intOf]; have := HP1.out; omega
      · have hd : decide ((p : Int) < (l.length : Int)) = false := by simp; omega
        have hqe : q = l.length - 1 := by have := hp.out; omega
        have hlen : (gone l i q).length = l.length := gone_len hi hq
        obtain ⟨cs, hg, hs, htk⟩ := hcp.blk
        have hcl := fun ty n c' hn => run_clear2 (g := g) (o := q * 2) (n := n) (c := c') (w := wr) hg (by have := hcp.cap; rw [hlen] at this; omega) hn ty
        have hcl2 := fun ty c' => hcl ty (l.length - q) c' (by omega)
        have hset : wr.setCells g (q * 2) [.int .u64 0, .slice none 0 0] = (wr.setCell ⟨g, q * 2, none⟩ (.int .u64 0)).setCell ⟨g, q * 2 + 1, none⟩ (.slice none 0 0) := rfl
        have hput : CopyC g c ((gone l i q).set q ⟨0, none, 0, []⟩) (wr.setCells g (q * 2) [.int .u64 0, .slice none 0 0]) := by rw [hset]; exact hcp.put (j := q) ⟨0, none, 0, []⟩
        have hrow := hput.row HBG.out HCM.out (n := q) (by rw [List.length_set]; omega)
        rw [List.take_set_of_le (Nat.le_refl _), hqe, gone_last hi, ← hqe] at hrow
        have hgrow : w.grownBy (wr.setCells g (q * 2) [.int .u64 0, .slice none 0 0]) (some g) :=
          ⟨hgb.os, hgb.tape, hgb.output, by rw [hset]; simpa [World.setCell] using hgb.size, fun k hk hne => by
            have hkg : k ≠ g := fun e => hne (by rw [e])
            rw [clear2_heap k hkg]
            exact hgb.block k hk hne⟩
        have hb1 : q ≤ l.length := by omega
        have hb2 : l.length ≤ c := by have := hcp.cap; rw [hlen] at this; exact this
        have HROW := Lib.hid hrow
        have HGR := Lib.hid hgrow
        clear hcl hrow hg hs htk hlen hqe hcp hgb hset hput hgrow
        go_wp2
        go_ret
        exact ⟨_, _, rfl, HROW.out, erase_filter hi HID.out HU.out, HGR.out⟩
  · have hbeq : ((-1 : Int) == -1) = true := by rfl
    have hr1 := HR.out.below hb1
    have HR1 := Lib.hid hr1
    have HG1 := Lib.hid (grown_below hb1 (Value.slice a l.length c).ownBlock)
    have HALL := Lib.hid hall
    clear hr1 hb1 hall
    go_wp2
    go_ret
    exact ⟨_, l, rfl, HR1.out, (filter_all fun x hx => by
      obtain ⟨k, hk, rfl⟩ := List.getElem_of_mem hx
      simpa using HALL.out k hk).symm, HG1.out⟩
end Go.Proofs.YtpbnjibomdilhaaGreatDoor.Job
