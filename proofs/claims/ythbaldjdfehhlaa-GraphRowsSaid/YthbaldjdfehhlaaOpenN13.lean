/- The laws' parameter is opened: nodes. -/
import Derived.Test.YthbaldjdfehhlaaNod13
import Derived.Deep.SlicePairs
import Derived.Lib.SmallJoins
import Derived.ProofKit
namespace Go.Proofs.Ythbaldjdfehhlaa
open Go.ChangeShapes Go.WideShapes Go.RowKit Go.Lib Gr

theorem cellsNode : Try.prog.cellsOf 35 = 2 := by kernel_rfl
theorem spot_none {w : World} {x : Addr} {v : Value} (h : w.cell? x = some v) : x = ⟨x.block, x.off, none⟩ := by
  obtain ⟨b, o, s⟩ := x
  cases s with
  | none => rfl
  | some n =>
    unfold World.cell? at h
    split at h
    · simp at h
    · cases h
theorem add_none (b q i : Nat) : (⟨b, q, none⟩ : Addr).add i = ⟨b, q + i, none⟩ := by
  unfold Addr.add
  split
  · subst i; rfl
  · rfl
section
variable {H : Type} {enc : TypeId × Value → H} {w : World} {base : Nat} {held : Bool}
theorem open_deps {fuel : Nat} {a : Option Addr} {len cap : Nat} {x : DataW H × List MemPlace} (h : DataW.trod enc Try.prog w base (fun _ => true) held fuel 26 [.slice a len cap] = some x) : ∃ zs : List Int, zs.length = len ∧ NumsF w a zs ∧ len ≤ cap ∧ cap ≤ maxLen ∧ (a = none → len = 0 ∧ cap = 0) := by
  rcases open_ints Try.underlying26 Try.underlying23 (by kernel_rfl) h with ⟨hcs, _⟩ | ⟨y, l, c, zs, hcs, _, hl, hm, hz, _, hcell, hwz⟩
  · simp at hcs
    obtain ⟨rfl, rfl, rfl⟩ := hcs
    exact ⟨[], rfl, NumsF.nil _ _, Nat.le_refl _, Nat.zero_le _, fun _ => ⟨rfl, rfl⟩⟩
  · simp at hcs
    obtain ⟨rfl, rfl, rfl⟩ := hcs
    have hzl : zs.length = cap := by simpa using hz
    refine ⟨zs.take len, by simp; omega, ?_, hl, hm, fun e => by cases e⟩
    by_cases hc0 : cap = 0
    · obtain rfl : zs = [] := List.eq_nil_of_length_eq_zero (by omega)
      rw [List.take_nil]
      exact NumsF.nil _ _
    · have hy : y = ⟨y.block, y.off, none⟩ := spot_none (by simpa [Addr.add] using hcell 0 (by omega))
      refine ⟨⟨y.block, y.off, fun _ => congrArg some hy, fun k hk => ?_⟩, fun x hx => of_wf_u (hwz x (List.mem_of_mem_take hx))⟩
      have hk' : k < len := by simp at hk; omega
      have h1 := hcell k (by omega)
      rw [hy, add_none] at h1
      refine ⟨World.block_lt_of_cell? w ⟨y.block, y.off + k, none⟩ h1, ?_⟩
      rw [h1, List.getElem_take]
      simp [List.getD, show k < zs.length by omega]
set_option maxRecDepth 100000 in
theorem open_node {n : Nat} {cs : List Value} {x : DataW H × List MemPlace} (hl : cs.length = 2) (h : DataW.trod enc Try.prog w base (fun _ => true) held n 35 cs = some x) :
    ∃ v : NodeV, cs = encN v ∧ NodeF w v ∧ (v.da = none → v.deps.length = 0 ∧ v.dc = 0) := by
  obtain ⟨xs, k, -, hx, -, hlen, hf⟩ := DataW.trod_struct Try.underlying35 h
  match xs, hlen, cs, hl with
  | [y0, y1], _, [c0, c1], _ =>
    have h0 : DataW.trod enc Try.prog w base (fun _ => true) held k 23 [c0] = some y0 := hf 0 _ rfl
    have h1 : DataW.trod enc Try.prog w base (fun _ => true) held k 26 [c1] = some y1 := hf 1 _ rfl
    obtain ⟨z, e0, rfl, w0⟩ := DataW.trod_int Try.underlying23 h0
    obtain rfl : c0 = .int .u64 z := by simpa using e0
    have hs : ∃ a len cap, c1 = .slice a len cap := by
      rcases open_ints Try.underlying26 Try.underlying23 (by kernel_rfl) h1 with ⟨hcs, _⟩ | ⟨y, l, c, zs, hcs, _⟩
      · exact ⟨_, _, _, by simpa using hcs⟩
      · exact ⟨_, _, _, by simpa using hcs⟩
    obtain ⟨a, len, cap, rfl⟩ := hs
    obtain ⟨zs, rfl, hz, hc, hm, hn⟩ := open_deps h1
    exact ⟨⟨z, a, cap, zs⟩, rfl, ⟨of_wf_u w0, hz, hc, hm⟩, hn⟩
set_option maxRecDepth 100000 in
/-- the nodes that came in -/
theorem open_nodes {fuel : Nat} {a : Option Addr} {len cap : Nat} {x : DataW H × List MemPlace} (h : DataW.trod enc Try.prog w base (fun _ => true) held fuel 22 [.slice a len cap] = some x) : ∃ l : List NodeV, l.length = len ∧ NodesF w a l ∧ len ≤ cap ∧ cap ≤ 9223372036854775807 ∧ (∀ v ∈ l, v.da = none → v.deps.length = 0 ∧ v.dc = 0) ∧ (a = none → len = 0 ∧ cap = 0) := by
  rcases Go.Deep.open_slice Try.underlying22 h with ⟨hcs, _⟩ | ⟨y, l, c, m, n, D, Pl, hcs, _, hl, hm, hmm, _, hx⟩
  · simp at hcs
    obtain ⟨rfl, rfl, rfl⟩ := hcs
    exact ⟨[], rfl, NodesF.nil _ _, Nat.le_refl _, Nat.zero_le _, (fun v hv => by cases hv), fun _ => ⟨rfl, rfl⟩⟩
  · simp at hcs
    obtain ⟨rfl, rfl, rfl⟩ := hcs
    simp only [if_true] at hmm
    subst hmm
    have each : ∀ i, i < m → ∃ v : NodeV, (w.cell? (y.add (i * 2 + 0)) = some (.int .u64 v.id) ∧ w.cell? (y.add (i * 2 + 1)) = some (.slice v.da v.deps.length v.dc)) ∧ NodeF w v ∧ (v.da = none → v.deps.length = 0 ∧ v.dc = 0) := fun i hi => by
      obtain ⟨cs', h1, h2⟩ := hx i hi
      rw [cellsNode] at h1
      obtain ⟨_, hlen, hcell⟩ := World.cells?_some h1
      obtain ⟨v, rfl, hf⟩ := open_node hlen h2
      have e0 := hcell 0 (by omega)
      have e1 := hcell 1 (by omega)
      rw [Go.Deep.add_add] at e0 e1
      exact ⟨v, ⟨by simpa [encN] using e0, by simpa [encN] using e1⟩, hf⟩
    obtain ⟨q, hq⟩ := Go.Deep.choose_lt each
    have hlm : len ≤ m := hl
    refine ⟨(List.range len).map q, by simp, ⟨?_, fun v hv => ?_⟩, hl, by unfold maxLen at hm; omega, fun v hv => ?_, fun e => by cases e⟩
    · by_cases hm0 : m = 0
      · obtain rfl : len = 0 := by omega
        exact ⟨0, 0, fun h => absurd rfl h, fun i hi => absurd hi (by simp)⟩
      · have hy : y = ⟨y.block, y.off, none⟩ := spot_none (by simpa [Addr.add] using (hq 0 (by omega)).1.1)
        refine ⟨y.block, y.off, fun _ => congrArg some hy, fun i hi => ?_⟩
        have hil : i < len := by simpa using hi
        obtain ⟨⟨h0, h1⟩, _⟩ := hq i (by omega)
        rw [hy, add_none] at h0 h1
        have hg : ((List.range len).map q)[i] = q i := by simp
        rw [hg]
        exact ⟨World.block_lt_of_cell? w ⟨y.block, y.off + (i * 2 + 0), none⟩ h0, h0, h1⟩
    · obtain ⟨i, hi, rfl⟩ := List.mem_map.1 hv
      exact (hq i (by have := List.mem_range.1 hi; omega)).2.1
    · obtain ⟨i, hi, rfl⟩ := List.mem_map.1 hv
      exact (hq i (by have := List.mem_range.1 hi; omega)).2.2
end
end Go.Proofs.Ythbaldjdfehhlaa
