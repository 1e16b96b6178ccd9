/- vote.bears, by its contract: a record that bears just so many numbers. -/
import Derived.Test.YtaljfpkgancidaaRecV
import Derived.Test.YtaljfpkgancidaaTakeR
import Derived.Test.YtaljfpkgancidaaDisk6
namespace Go.Proofs.Ytaljfpkgancidaa
open Go.RowKit

/-- cells that were written, one after the other; between them memory was made -/
inductive Pens (w : World) : List ((Nat × Nat) × Value) → World → Prop
  | start : Pens w [] w
  | next {l w1 w2 b i v} : Pens w l w1 → Below w1.heap.size w1 w2 → Pens w (l ++ [((b, i), v)]) (w2.setCell ⟨b, i, none⟩ v)
  | made {l w1 w2} : Pens w l w1 → Below w1.heap.size w1 w2 → Pens w l w2

theorem Pens.size {w w' : World} {l : List ((Nat × Nat) × Value)} (h : Pens w l w') : w.heap.size ≤ w'.heap.size := by
  induction h with
  | start => exact Nat.le_refl _
  | @next l w1 w2 b i v h0 h1 ih => have := h1.size; simp [World.setCell]; omega
  | made h0 h1 ih => have := h1.size; omega
theorem Pens.under {w w' : World} {l : List ((Nat × Nat) × Value)} {B : Nat} (hB : B ≤ w.heap.size) (h : Pens w l w') : (∀ x ∈ l, B ≤ x.1.1) → Below B w w' := by
  induction h with
  | start => intro _; exact Below.refl _ _
  | @next l w1 w2 b i v h0 h1 ih =>
    intro hl
    have h2 := ih fun x hx => hl x (by simp [hx])
    exact (h2.trans (h1.mono (Nat.le_trans hB h0.size))).setCell (p := ⟨b, i, none⟩) (hl ((b, i), v) (by simp)) v
  | made h0 h1 ih => intro hl; exact (ih hl).trans (h1.mono (Nat.le_trans hB h0.size))
theorem Pens.other {w w' : World} {l : List ((Nat × Nat) × Value)} (h : Pens w l w') {j : Nat} (hj : j < w.heap.size) : (∀ x ∈ l, x.1.1 ≠ j) → w'.heap[j]? = w.heap[j]? := by
  induction h with
  | start => intro _; rfl
  | @next l w1 w2 b i v h0 h1 ih =>
    intro hl
    have hne : b ≠ j := hl ((b, i), v) (by simp)
    exact (Below.heap_setCell _ _ _ _ (by show j ≠ b; omega)).trans ((h1.block j (Nat.lt_of_lt_of_le hj h0.size)).trans (ih fun x hx => hl x (by simp [hx])))
  | made h0 h1 ih => intro hl; exact (h1.block j (Nat.lt_of_lt_of_le hj h0.size)).trans (ih hl)

/-- what stands in a block behind them -/
def put1 (j : Nat) (cs : Array Value) (x : (Nat × Nat) × Value) : Array Value := if x.1.1 = j then cs.setIfInBounds x.1.2 x.2 else cs
theorem Pens.cells {w w' : World} {l : List ((Nat × Nat) × Value)} (h : Pens w l w') {j : Nat} {cs : Array Value} {T : TypeId} {fr : Nat × Nat} (hj : w.heap[j]? = some (.cells cs T fr)) : w'.heap[j]? = some (.cells (l.foldl (put1 j) cs) T fr) := by
  have hlt := lt_of_block hj
  induction h with
  | start => exact hj
  | @next l w1 w2 b i v h0 h1 ih =>
    have h2 := (h1.block j (Nat.lt_of_lt_of_le hlt h0.size)).trans ih
    rw [List.foldl_append]
    simp only [List.foldl_cons, List.foldl_nil]
    by_cases hb : b = j
    · subst hb
      simp only [put1, if_pos]
      exact cells_set h2 i v
    · simp only [put1, if_neg hb]
      exact (Below.heap_setCell _ _ _ _ (by show j ≠ b; omega)).trans h2
  | made h0 h1 ih => exact (h1.block j (Nat.lt_of_lt_of_le hlt h0.size)).trans ih
theorem put1_size (j : Nat) (cs : Array Value) (x : (Nat × Nat) × Value) : (put1 j cs x).size = cs.size := by unfold put1; split <;> simp
theorem puts_size (j : Nat) : ∀ (l : List ((Nat × Nat) × Value)) (cs : Array Value), (l.foldl (put1 j) cs).size = cs.size
  | [], _ => rfl
  | x :: l, cs => by rw [List.foldl_cons, puts_size j l, put1_size]

def wl (ps : List (Nat × Nat)) (ns : List Nat) : List ((Nat × Nat) × Value) := List.zipWith (fun p n => (p, Value.int .u64 ((n : Nat) : Int))) ps ns
theorem wl_snoc : ∀ (ps : List (Nat × Nat)) (ns : List Nat) (n : Nat) (p : Nat × Nat), ps[ns.length]? = some p → wl ps (ns ++ [n]) = wl ps ns ++ [(p, .int .u64 ((n : Nat) : Int))]
  | [], ns, n, p, h => by simp at h
  | q :: ps, [], n, p, h => by
    simp at h
    simp [wl, h]
  | q :: ps, m :: ns, n, p, h => by
    have := wl_snoc ps ns n p (by simpa using h)
    simp only [wl, List.cons_append, List.zipWith_cons_cons] at this ⊢
    rw [this]
theorem wl_mem : ∀ (ps : List (Nat × Nat)) (ns : List Nat) (x), x ∈ wl ps ns → x.1 ∈ ps
  | [], _, x, h => by simp [wl] at h
  | q :: ps, [], x, h => by simp [wl] at h
  | q :: ps, m :: ns, x, h => by
    simp only [wl, List.zipWith_cons_cons, List.mem_cons] at h
    rcases h with rfl | h
    · simp
    · exact List.mem_cons_of_mem _ (wl_mem ps ns x h)

set_option maxRecDepth 100000 in
set_option maxHeartbeats 1000000 in
theorem bears_any (w0 : World) (a : Option Addr) (cap : Nat) (bs : List Int) (g c : Nat) (ps : List (Nat × Nat)) (w : World) (hr : Reads w0 a bs) (h0 : Below w0.heap.size w0 w) (hlen : bs.length ≤ 1000000) (hn : ps.length ≤ 10)
    (hg : ∀ i p, ps[i]? = some p → w.cell? ⟨g, i, none⟩ = some (.pointer (some ⟨p.1, p.2, none⟩)))
    (hp : ∀ p ∈ ps, w0.heap.size ≤ p.1 ∧ p.1 ≠ g ∧ ∃ cs T, w.heap[p.1]? = some (.cells cs T (0, 0)) ∧ p.2 < cs.size) :
    Calls Try.prog 37 #[.slice a bs.length cap, .slice (some ⟨g, 0, none⟩) ps.length c] w fun e w' =>
      (∃ ns, ns.length = ps.length ∧ bs = Vt.recOf ns ∧ Vt.Small ns ∧ e = .returned (.bool true) ∧ Pens w (wl ps ns) w') ∨
      ((∀ ns, ns.length = ps.length → Vt.Small ns → bs ≠ Vt.recOf ns) ∧ e = .returned (.bool false) ∧ ∃ l, (∀ x ∈ l, x.1 ∈ ps) ∧ Pens w l w') := by
  have HR := Lib.hid hr
  have H0 := Lib.hid h0
  have HG := Lib.hid hg
  have HP := Lib.hid hp
  have HL := Lib.hid hlen
  have HN := Lib.hid hn
  clear hr h0 hg hp
  go_enter Try.func37, Try.ntmps37
  go_wp2
  go_loopw [5, 13] (fun at_ i wr => ∃ (ns : List Nat) (k : Nat), ns.length ≤ ps.length ∧ i = .int .i64 (ns.length : Nat) ∧ at_ = .int .i64 (k : Nat) ∧ Vt.Gone bs ns k ∧ Pens w (wl ps ns) wr) (fun _ i _ => ps.length - (intOf i).toNat)
  case atStart => exact ⟨[], 0, Nat.zero_le _, rfl, rfl, .start, by simpa [wl] using Pens.start⟩
  case round =>
    obtain ⟨ns, k, hk, rfl, rfl, hgo, hwr⟩ := hrel
    have hwx : ∀ x ∈ wl ps ns, w0.heap.size ≤ x.1.1 := fun x hx => (HP.out x.1 (wl_mem ps ns x hx)).1
    have hbw := hwr.under H0.out.size hwx
    have hrd := HR.out.below (H0.out.trans hbw)
    have hkl := (hgo.is HR.out.hr).2.1
    obtain ⟨q, hq⟩ : ∃ q, q = ns.length := ⟨_, rfl⟩
    rw [← hq] at hk ⊢
    by_cases hlt : q < ps.length
    · obtain ⟨p, hpi⟩ : ∃ p, ps[q]? = some p := ⟨ps[q], by simp [hlt]⟩
      have hpm : p ∈ ps := List.mem_of_getElem? hpi
      obtain ⟨hp1, hp2, cs, T, hp3, hp4⟩ := HP.out p hpm
      have hgc := HG.out q p hpi
      have hgne : ∀ x ∈ wl ps ns, x.1.1 ≠ g := fun x hx => (HP.out x.1 (wl_mem ps ns x hx)).2.1
      have hgb := hwr.other (World.block_lt_of_cell? w _ hgc) hgne
      have hcell : wr.cell? ⟨g, q, none⟩ = some (.pointer (some ⟨p.1, p.2, none⟩)) := by
        rw [← hgc]
        simp only [World.cell?]
        rw [show wr.heap[(⟨g, q, none⟩ : Addr).block]? = w.heap[(⟨g, q, none⟩ : Addr).block]? from hgb]
      have hpc := hwr.cells hp3
      have HT := Lib.hid (take_any a bs.length cap k bs wr hrd rfl (by omega) hkl)
      have HWR := Lib.hid hwr
      have HGO := Lib.hid hgo
      have HPC := Lib.hid hpc
      have HP4 := Lib.hid hp4
      have HPI := Lib.hid hpi
      have HPM := Lib.hid hpm
      have HQ := Lib.hid hq
      clear hwr hgo hpc hp3 hp4 hgb hgc hgne hbw hrd hwx hpi hpm hp1 hp2 hq hlen hn
      obtain ⟨D, hD⟩ : ∃ D, D = Num.dec 10 0 0 (bs.drop k) := ⟨_, rfl⟩
      rw [← hD] at HT
      have HD := Lib.hid hD
      clear hD
      obtain ⟨pb, pi⟩ := p
      dsimp only at *
      go_wp2_with fail
      refine HT.out.mono ?_
      intro e w1 ht
      clear HT
      cases D with
      | none =>
        obtain ⟨rfl, hb1⟩ := ht
        go_wp2_with fail
        go_ret
        refine .inr ⟨fun ms hml hms => HGO.out.none HD.out.symm hms (by have := HQ.out; omega), rfl, wl ps ns, wl_mem ps ns, .made HWR.out hb1⟩
      | some nj =>
        obtain ⟨n, j⟩ := nj
        obtain ⟨rfl, hb1⟩ := ht
        have hpc1 := (hb1.block pb (lt_of_block HPC.out)).trans HPC.out
        have hsz : pi < ((wl ps ns).foldl (put1 pb) cs).size := by rw [puts_size]; exact HP4.out
        obtain ⟨cv, hcv⟩ : ∃ cv, w1.cell? ⟨pb, pi, none⟩ = some cv := ⟨_, by rw [cell_of_row _ _ pi _ _ _ hpc1]; exact Array.getElem?_eq_getElem hsz⟩
        have hfz : w1.frozen? ⟨pb, pi, none⟩ = false := frozen_row hpc1
        have hgo2 := Vt.Gone.next HGO.out HD.out.symm
        have hle2 := (hgo2.is HR.out.hr).2.1
        have HL2 := HL.out
        have HN2 := HN.out
        have HGO2 := Lib.hid hgo2
        have HB1 := Lib.hid hb1
        clear hgo2 hb1 hpc1 hsz
        go_wp2_with fail
        go_roundw
        case rel =>
          refine ⟨ns ++ [n], k + j, by rw [List.length_append, List.length_singleton, ← HQ.out]; omega, ?_, by go_num, HGO2.out, ?_⟩
          · rw [List.length_append, List.length_singleton, ← HQ.out]; go_num
          · rw [wl_snoc ps ns n (pb, pi) (by rw [← HQ.out]; exact HPI.out)]
            exact .next HWR.out HB1.out
        case measure => simp [intOf]; omega
    · have hql : q = ps.length := by omega
      have HQ := Lib.hid hq
      have HQL := Lib.hid hql
      have HWR := Lib.hid hwr
      have HGO := Lib.hid hgo
      clear hq hql hwr hgo hbw hrd hwx hlen hn
      go_wp2_with fail
      go_ret
      by_cases hkk : k = bs.length
      · subst hkk
        obtain ⟨e1, e2⟩ := HGO.out.whole HR.out.hr
        refine .inl ⟨ns, by rw [← HQ.out, HQL.out], e1, e2, ?_, HWR.out⟩
        simp
      · refine .inr ⟨fun ms hml hms => HGO.out.not hkk hms (by rw [hml, ← HQL.out, HQ.out]), ?_, wl ps ns, wl_mem ps ns, HWR.out⟩
        simp
        omega

end Go.Proofs.Ytaljfpkgancidaa
