/- The laws' parameter is opened: steps. -/
import Derived.Test.YtjpbniajhkindaaOpsT
import Derived.Deep.SlicePairs
import Derived.Lib.SmallJoins
import Derived.ProofKit
namespace Go.Proofs.Ytjpbniajhkindaa
open Go.ChangeShapes Go.WideShapes Go.RowKit Go.Lib Dsk Tok Go.Sort
instance : Inhabited OpV := ⟨⟨0, 0, 0, none, 0, [], none, 0, 0⟩⟩

theorem cellsOp : Try.prog.cellsOf 35 = 5 := by kernel_rfl
theorem spot_none {w : World} {x : Addr} {v : Value} (h : w.cell? x = some v) : x = ⟨x.block, x.off, none⟩ := by
  obtain ⟨b, o, s⟩ := x
  cases s with
  | none => rfl
  | some n =>
    unfold World.cell? at h
    split at h
    · simp at h
    · cases h
theorem add_none (b q i : Nat) : (⟨b, q, none⟩ : Addr).add i = ⟨b, q + i, none⟩ := by
  unfold Addr.add
  split
  · subst i; rfl
  · rfl
theorem bits_of {x : Int} (h : (Lit.int .u64 x).wf = true) : ∃ b : Nat, x = (b : Int) ∧ b < top64 := by
  have hb : 0 ≤ x ∧ x ≤ 18446744073709551615 := by simpa [Lit.wf, IntKind.min, IntKind.max, IntKind.signed, IntKind.bits] using h
  exact ⟨x.toNat, by omega, by show x.toNat < 18446744073709551616; omega⟩
section
variable {H : Type} {enc : TypeId × Value → H} {w : World} {base : Nat} {held : Bool}
theorem open_nums {fuel : Nat} {a : Option Addr} {len cap : Nat} {x : DataW H × List MemPlace} (h : DataW.trod enc Try.prog w base (fun _ => true) held fuel 32 [.slice a len cap] = some x) : ∃ ss : List Int, ss.length = len ∧ (∀ k (h : k < ss.length), ∃ gs of, a = some ⟨gs, of, none⟩ ∧ gs < w.heap.size ∧ w.cell? ⟨gs, of + k, none⟩ = some (.int .i64 ss[k])) ∧ ∀ x ∈ ss, -9223372036854775808 ≤ x ∧ x ≤ 9223372036854775807 := by
  rcases open_ints Try.underlying32 Try.underlying3 (by kernel_rfl) h with ⟨hcs, _⟩ | ⟨y, l, c, zs, hcs, _, hl, hm, hz, _, hcell, hwz⟩
  · simp at hcs
    obtain ⟨rfl, rfl, rfl⟩ := hcs
    exact ⟨[], rfl, fun k hk => absurd hk (by simp), fun x hx => by cases hx⟩
  · simp at hcs
    obtain ⟨rfl, rfl, rfl⟩ := hcs
    have hzl : zs.length = cap := by simpa using hz
    refine ⟨zs.take len, by simp; omega, fun k hk => ?_, fun x hx => ?_⟩
    · have hk' : k < len := by simp at hk; omega
      have hy : y = ⟨y.block, y.off, none⟩ := spot_none (by simpa [Addr.add] using hcell 0 (by omega))
      have h1 := hcell k (by omega)
      rw [hy, add_none] at h1
      refine ⟨y.block, y.off, congrArg some hy, World.block_lt_of_cell? w ⟨y.block, y.off + k, none⟩ h1, ?_⟩
      rw [h1, List.getElem_take]
      simp [List.getD, show k < zs.length by omega]
    · have := hwz x (List.mem_of_mem_take hx)
      simpa [Lit.wf, IntKind.min, IntKind.max, IntKind.signed, IntKind.bits] using this
set_option maxRecDepth 100000 in
theorem open_op {n : Nat} {cs : List Value} {x : DataW H × List MemPlace} (hl : cs.length = 5) (h : DataW.trod enc Try.prog w base (fun _ => true) held n 35 cs = some x) :
    ∃ o : OpV, cs = [.int .i64 o.kind, .int .u64 (o.job : Int), .int .u64 (o.token : Int), .slice o.sa o.ss.length o.sc, .slice o.ba o.bl o.bc] ∧ (o.job < top64 ∧ o.token < top64 ∧ -9223372036854775808 ≤ o.kind ∧ o.kind ≤ 9223372036854775807) ∧
      (∀ k (h : k < o.ss.length), ∃ gs of, o.sa = some ⟨gs, of, none⟩ ∧ gs < w.heap.size ∧ w.cell? ⟨gs, of + k, none⟩ = some (.int .i64 o.ss[k])) ∧ ∀ x ∈ o.ss, -9223372036854775808 ≤ x ∧ x ≤ 9223372036854775807 := by
  obtain ⟨xs, k, -, hx, -, hlen, hf⟩ := DataW.trod_struct Try.underlying35 h
  match xs, hlen, cs, hl with
  | [y0, y1, y2, y3, y4], _, [c0, c1, c2, c3, c4], _ =>
    have h0 : DataW.trod enc Try.prog w base (fun _ => true) held k 3 [c0] = some y0 := hf 0 _ rfl
    have h1 : DataW.trod enc Try.prog w base (fun _ => true) held k 31 [c1] = some y1 := hf 1 _ rfl
    have h2 : DataW.trod enc Try.prog w base (fun _ => true) held k 31 [c2] = some y2 := hf 2 _ rfl
    have h3 : DataW.trod enc Try.prog w base (fun _ => true) held k 32 [c3] = some y3 := hf 3 _ rfl
    have h4 : DataW.trod enc Try.prog w base (fun _ => true) held k 33 [c4] = some y4 := hf 4 _ rfl
    obtain ⟨z, e0, rfl, w0⟩ := DataW.trod_int Try.underlying3 h0
    obtain ⟨j, e1, rfl, w1⟩ := DataW.trod_int Try.underlying31 h1
    obtain ⟨t, e2, rfl, w2⟩ := DataW.trod_int Try.underlying31 h2
    obtain ⟨j, rfl, hj⟩ := bits_of w1
    obtain ⟨t, rfl, ht⟩ := bits_of w2
    have hz : -9223372036854775808 ≤ z ∧ z ≤ 9223372036854775807 := by simpa [Lit.wf, IntKind.min, IntKind.max, IntKind.signed, IntKind.bits] using w0
    obtain rfl : c0 = .int .i64 z := by simpa using e0
    obtain rfl : c1 = .int .u64 (j : Int) := by simpa using e1
    obtain rfl : c2 = .int .u64 (t : Int) := by simpa using e2
    have hs : ∃ a len cap, c3 = .slice a len cap := by
      rcases open_ints Try.underlying32 Try.underlying3 (by kernel_rfl) h3 with ⟨hcs, _⟩ | ⟨y, l, c, zs, hcs, _⟩
      · exact ⟨_, _, _, by simpa using hcs⟩
      · exact ⟨_, _, _, by simpa using hcs⟩
    obtain ⟨a, len, cap, rfl⟩ := hs
    have hs : ∃ a len cap, c4 = .slice a len cap := by
      rcases open_ints Try.underlying33 Try.underlying5 (by kernel_rfl) h4 with ⟨hcs, _⟩ | ⟨y, l, c, zs, hcs, _⟩
      · exact ⟨_, _, _, by simpa using hcs⟩
      · exact ⟨_, _, _, by simpa using hcs⟩
    obtain ⟨a', len', cap', rfl⟩ := hs
    obtain ⟨ss, rfl, hss, hfit⟩ := open_nums h3
    exact ⟨⟨z, j, t, a, cap, ss, a', len', cap'⟩, rfl, ⟨hj, ht, hz⟩, hss, hfit⟩
set_option maxRecDepth 100000 in
/-- the steps that came in -/
theorem open_ops {fuel : Nat} {a : Option Addr} {len cap : Nat} {x : DataW H × List MemPlace} (h : DataW.trod enc Try.prog w base (fun _ => true) held fuel 22 [.slice a len cap] = some x) : ∃ l : List OpV, l.length = len ∧ OpsF w a l := by
  rcases Go.Deep.open_slice Try.underlying22 h with ⟨hcs, _⟩ | ⟨y, l, c, m, n, D, Pl, hcs, _, hl, hm, hmm, _, hx⟩
  · simp at hcs
    obtain ⟨rfl, rfl, rfl⟩ := hcs
    exact ⟨[], rfl, fun i hi => absurd hi (by simp), fun o ho => (by cases ho), fun o ho => (by cases ho)⟩
  · simp at hcs
    obtain ⟨rfl, rfl, rfl⟩ := hcs
    simp only [if_true] at hmm
    subst hmm
    have each : ∀ i, i < m → ∃ o : OpV, (w.cell? (y.add (i * 5 + 0)) = some (.int .i64 o.kind) ∧ w.cell? (y.add (i * 5 + 1)) = some (.int .u64 (o.job : Int)) ∧ w.cell? (y.add (i * 5 + 2)) = some (.int .u64 (o.token : Int)) ∧ w.cell? (y.add (i * 5 + 3)) = some (.slice o.sa o.ss.length o.sc) ∧ w.cell? (y.add (i * 5 + 4)) = some (.slice o.ba o.bl o.bc)) ∧ (o.job < top64 ∧ o.token < top64 ∧ -9223372036854775808 ≤ o.kind ∧ o.kind ≤ 9223372036854775807) ∧
        (∀ k (h : k < o.ss.length), ∃ gs of, o.sa = some ⟨gs, of, none⟩ ∧ gs < w.heap.size ∧ w.cell? ⟨gs, of + k, none⟩ = some (.int .i64 o.ss[k])) ∧ ∀ x ∈ o.ss, -9223372036854775808 ≤ x ∧ x ≤ 9223372036854775807 := fun i hi => by
      obtain ⟨cs', h1, h2⟩ := hx i hi
      rw [cellsOp] at h1
      obtain ⟨_, hlen, hcell⟩ := World.cells?_some h1
      obtain ⟨o, rfl, hf, hs⟩ := open_op hlen h2
      have e0 := hcell 0 (by omega)
      have e1 := hcell 1 (by omega)
      have e2 := hcell 2 (by omega)
      have e3 := hcell 3 (by omega)
      have e4 := hcell 4 (by omega)
      rw [Go.Deep.add_add] at e0 e1 e2 e3 e4
      exact ⟨o, ⟨by simpa using e0, by simpa using e1, by simpa using e2, by simpa using e3, by simpa using e4⟩, hf, hs⟩
    obtain ⟨q, hq⟩ := Go.Deep.choose_lt each
    have hlm : len ≤ m := hl
    refine ⟨(List.range len).map q, by simp, fun i hi => ?_, fun o ho => ?_, fun o ho => ?_⟩
    · have hil : i < len := by simpa using hi
      obtain ⟨⟨h0, h1, h2, h3, h4⟩, _⟩ := hq i (by omega)
      have hy : y = ⟨y.block, y.off, none⟩ := spot_none (by simpa [Addr.add] using (hq 0 (by omega)).1.1)
      rw [hy, add_none] at h0 h1 h2 h3 h4
      have hg : ((List.range len).map q)[i] = q i := by simp
      rw [hg]
      exact ⟨y.block, y.off, congrArg some hy, World.block_lt_of_cell? w ⟨y.block, y.off + (i * 5 + 0), none⟩ h0, h0, h1, h2, h3, h4⟩
    · obtain ⟨i, hi, rfl⟩ := List.mem_map.1 ho
      exact (hq i (by have := List.mem_range.1 hi; omega)).2.1
    · obtain ⟨i, hi, rfl⟩ := List.mem_map.1 ho
      exact (hq i (by have := List.mem_range.1 hi; omega)).2.2
end
end Go.Proofs.Ytjpbniajhkindaa
