/- The laws' parameters are opened: promises, shots, rows. -/
import Derived.Test.YtaljfpkgancidaaKnown11
import Derived.Deep.SlicePairs
import Derived.Lib.SmallJoins
import Derived.ProofKit
namespace Go.Proofs.Ytaljfpkgancidaa
open Go.ChangeShapes Go.WideShapes Go.RowKit Go.Lib

theorem cellsShot : Try.prog.cellsOf 27 = 3 := by kernel_rfl
theorem cellsProm : Try.prog.cellsOf 24 = 2 := by kernel_rfl
theorem array3 {α : Type} {cs : Array α} (h : cs.size = 3) : ∃ c0 c1 c2, cs = #[c0, c1, c2] := by
  obtain ⟨l⟩ := cs
  match l, h with
  | [c0, c1, c2], _ => exact ⟨c0, c1, c2, rfl⟩
theorem array2 {α : Type} {cs : Array α} (h : cs.size = 2) : ∃ c0 c1, cs = #[c0, c1] := by
  obtain ⟨l⟩ := cs
  match l, h with
  | [c0, c1], _ => exact ⟨c0, c1, rfl⟩
def InRow (w : World) (a : Option Addr) (len cap : Nat) (zs : List Int) : Prop :=
  (a = none ∧ len = 0 ∧ cap = 0 ∧ zs = []) ∨
  ∃ x, a = some x ∧ len ≤ cap ∧ cap ≤ maxLen ∧ zs.length = cap ∧ (∀ i, i < zs.length → w.cell? (x.add i) = some (.int .u8 (zs.getD i 0))) ∧ ∀ n ∈ zs, (Lit.int .u8 n).wf = true
theorem spot_none {w : World} {x : Addr} {v : Value} (h : w.cell? x = some v) : x = ⟨x.block, x.off, none⟩ := by
  obtain ⟨b, o, s⟩ := x
  cases s with
  | none => rfl
  | some n =>
    unfold World.cell? at h
    split at h
    · simp at h
    · cases h
theorem add_none (b q i : Nat) : (⟨b, q, none⟩ : Addr).add i = ⟨b, q + i, none⟩ := by
  unfold Addr.add
  split
  · subst i; rfl
  · rfl
/-- promises that came in -/
def PromsIn (w : World) (a : Option Addr) (l : List (Nat × Nat)) : Prop := ∀ i (h : i < l.length), ∃ b q, a = some ⟨b, q, none⟩ ∧ b < w.heap.size ∧ w.cell? ⟨b, q + i * 2, none⟩ = some (.int .u64 (l[i].1 : Int)) ∧ w.cell? ⟨b, q + i * 2 + 1, none⟩ = some (.int .u64 (l[i].2 : Int)) ∧ l[i].1 < 18446744073709551616 ∧ l[i].2 < 18446744073709551616
def natOf : Value → Nat
  | .int _ x => x.toNat
  | _ => 0
section
variable {H : Type} {enc : TypeId × Value → H} {w : World} {base : Nat} {held : Bool}
theorem open_row {fuel : Nat} {a : Option Addr} {len cap : Nat} {x : DataW H × List MemPlace} (h : DataW.trod enc Try.prog w base (fun _ => true) held fuel 25 [.slice a len cap] = some x) : ∃ zs, InRow w a len cap zs := by
  rcases open_ints Try.underlying25 Try.underlying5 (by kernel_rfl) h with ⟨hcs, _⟩ | ⟨y, l, c, zs, hcs, _, hl, hm, hz, _, hcell, hwz⟩
  · simp at hcs
    obtain ⟨rfl, rfl, rfl⟩ := hcs
    exact ⟨[], .inl ⟨rfl, rfl, rfl, rfl⟩⟩
  · simp at hcs
    obtain ⟨rfl, rfl, rfl⟩ := hcs
    exact ⟨zs, .inr ⟨_, rfl, hl, hm, by simpa using hz, hcell, hwz⟩⟩
theorem bits_of {x : Int} (h : (Lit.int .u64 x).wf = true) : ∃ b : Nat, x = (b : Int) ∧ b < 18446744073709551616 := by
  have hb : 0 ≤ x ∧ x ≤ 18446744073709551615 := by simpa [Lit.wf, IntKind.min, IntKind.max, IntKind.signed, IntKind.bits] using h
  exact ⟨x.toNat, by omega, by omega⟩
theorem byte_of {x : Int} (h : (Lit.int .u8 x).wf = true) : ∃ b : Nat, x = (b : Int) ∧ b < 256 := by
  have hb : 0 ≤ x ∧ x ≤ 255 := by simpa [Lit.wf, IntKind.min, IntKind.max, IntKind.signed, IntKind.bits] using h
  exact ⟨x.toNat, by omega, by omega⟩
set_option maxRecDepth 100000 in
theorem open_shot {r : Reach} {b0 : Nat} {v : Value} {d : DataW H} {p : List MemPlace} (hv : Value.okWide Try.prog w r b0 27 v) (h : DataW.Trod enc Try.prog w base (fun _ => true) held 27 v d p) :
    ∃ (n t : Nat) (a : Option Addr) (len cap : Nat) (zs : List Int), v = .agg #[.int .u64 (n : Int), .int .u64 (t : Int), .slice a len cap] ∧ n < 18446744073709551616 ∧ t < 18446744073709551616 ∧ InRow w a len cap zs := by
  obtain ⟨cs, rfl, hsz⟩ := okWide_struct Try.underlying27 hv
  obtain ⟨c0, c1, c2, rfl⟩ := array3 (hsz.trans cellsShot)
  obtain ⟨fuel, hf⟩ := h
  obtain ⟨xs, n, -, hx, hl, hlen, hf⟩ := DataW.trod_struct Try.underlying27 hf
  match xs, hlen with
  | [y0, y1, y2], _ =>
    have h0 : DataW.trod enc Try.prog w base (fun _ => true) held n 22 [c0] = some y0 := hf 0 _ rfl
    have h1 : DataW.trod enc Try.prog w base (fun _ => true) held n 22 [c1] = some y1 := hf 1 _ rfl
    have h2 : DataW.trod enc Try.prog w base (fun _ => true) held n 25 [c2] = some y2 := hf 2 _ rfl
    obtain ⟨x, e0, rfl, w0⟩ := DataW.trod_int Try.underlying22 h0
    obtain ⟨y, e1, rfl, w1⟩ := DataW.trod_int Try.underlying22 h1
    obtain ⟨b, rfl, hb⟩ := bits_of w0
    obtain ⟨t, rfl, ht⟩ := bits_of w1
    obtain rfl : c0 = .int .u64 (b : Int) := by simpa using e0
    obtain rfl : c1 = .int .u64 (t : Int) := by simpa using e1
    have hs : ∃ a len cap, c2 = .slice a len cap := by
      rcases open_ints Try.underlying25 Try.underlying5 (by kernel_rfl) h2 with ⟨hcs, _⟩ | ⟨y, l, c, zs, hcs, _⟩
      · exact ⟨_, _, _, by simpa using hcs⟩
      · exact ⟨_, _, _, by simpa using hcs⟩
    obtain ⟨a, len, cap, rfl⟩ := hs
    obtain ⟨zs, hz⟩ := open_row h2
    exact ⟨b, t, a, len, cap, zs, rfl, hb, ht, hz⟩
set_option maxRecDepth 100000 in
theorem open_prom {r : Reach} {b0 : Nat} {v : Value} {d : DataW H} {p : List MemPlace} (hv : Value.okWide Try.prog w r b0 24 v) (h : DataW.Trod enc Try.prog w base (fun _ => true) held 24 v d p) :
    ∃ n t : Nat, v = .agg #[.int .u64 (n : Int), .int .u64 (t : Int)] ∧ n < 18446744073709551616 ∧ t < 18446744073709551616 := by
  obtain ⟨cs, rfl, hsz⟩ := okWide_struct Try.underlying24 hv
  obtain ⟨c0, c1, rfl⟩ := array2 (hsz.trans cellsProm)
  obtain ⟨fuel, hf⟩ := h
  obtain ⟨xs, n, -, hx, hl, hlen, hf⟩ := DataW.trod_struct Try.underlying24 hf
  match xs, hlen with
  | [y0, y1], _ =>
    have h0 : DataW.trod enc Try.prog w base (fun _ => true) held n 22 [c0] = some y0 := hf 0 _ rfl
    have h1 : DataW.trod enc Try.prog w base (fun _ => true) held n 22 [c1] = some y1 := hf 1 _ rfl
    obtain ⟨x, e0, rfl, w0⟩ := DataW.trod_int Try.underlying22 h0
    obtain ⟨y, e1, rfl, w1⟩ := DataW.trod_int Try.underlying22 h1
    obtain ⟨b, rfl, hb⟩ := bits_of w0
    obtain ⟨t, rfl, ht⟩ := bits_of w1
    obtain rfl : c0 = .int .u64 (b : Int) := by simpa using e0
    obtain rfl : c1 = .int .u64 (t : Int) := by simpa using e1
    exact ⟨b, t, rfl, hb, ht⟩
set_option maxRecDepth 100000 in
/-- the promises that came in -/
theorem open_proms {fuel : Nat} {a : Option Addr} {len cap : Nat} {x : DataW H × List MemPlace} (h : DataW.trod enc Try.prog w base (fun _ => true) held fuel 49 [.slice a len cap] = some x) : ∃ l : List (Nat × Nat), l.length = len ∧ PromsIn w a l := by
  rcases Go.Deep.open_slice_pairs Try.underlying49 Try.underlying24 cellsProm rfl rfl (by kernel_rfl) (by kernel_rfl) h with ⟨hcs, _⟩ | ⟨y, l, c, m, n, V0, V1, D0, D1, P0, P1, hcs, _, hl, hm, hmm, _, hr⟩
  · simp at hcs
    obtain ⟨rfl, rfl, rfl⟩ := hcs
    exact ⟨[], rfl, fun i hi => absurd hi (by simp)⟩
  · simp at hcs
    obtain ⟨rfl, rfl, rfl⟩ := hcs
    simp only [if_true] at hmm
    subst hmm
    refine ⟨(List.range len).map fun i => (natOf (V0 i), natOf (V1 i)), by simp, fun i hi => ?_⟩
    have hil : i < len := by simpa using hi
    obtain ⟨h1, h2, h3, h4⟩ := hr i (by omega)
    have hy : y = ⟨y.block, y.off, none⟩ := spot_none (by simpa [Addr.add] using (hr 0 (by omega)).1)
    obtain ⟨a0, e0, _, w0⟩ := DataW.trod_int Try.underlying22 h3
    obtain ⟨a1, e1, _, w1⟩ := DataW.trod_int Try.underlying22 h4
    obtain ⟨b0, rfl, hb0⟩ := bits_of w0
    obtain ⟨b1, rfl, hb1⟩ := bits_of w1
    have e0' : V0 i = .int .u64 (b0 : Int) := by simpa using e0
    have e1' : V1 i = .int .u64 (b1 : Int) := by simpa using e1
    rw [hy, add_none] at h1 h2
    have hg : ((List.range len).map fun i => (natOf (V0 i), natOf (V1 i)))[i] = (b0, b1) := by simp [e0', e1', natOf]
    rw [hg]
    exact ⟨y.block, y.off, congrArg some hy, World.block_lt_of_cell? w ⟨y.block, y.off + i * 2, none⟩ h1, by rw [h1, e0'], by rw [Nat.add_assoc, h2, e1'], hb0, hb1⟩
/-- the numbers that came in -/
theorem open_nums {fuel : Nat} {a : Option Addr} {len cap : Nat} {x : DataW H × List MemPlace} (h : DataW.trod enc Try.prog w base (fun _ => true) held fuel 50 [.slice a len cap] = some x) : ∃ ss : List Int, ss.length = len ∧ (∀ k (h : k < ss.length), ∃ gs of, a = some ⟨gs, of, none⟩ ∧ gs < w.heap.size ∧ w.cell? ⟨gs, of + k, none⟩ = some (.int .i64 ss[k])) ∧ ∀ x ∈ ss, -9223372036854775808 ≤ x ∧ x ≤ 9223372036854775807 := by
  rcases open_ints Try.underlying50 Try.underlying3 (by kernel_rfl) h with ⟨hcs, _⟩ | ⟨y, l, c, zs, hcs, _, hl, hm, hz, _, hcell, hwz⟩
  · simp at hcs
    obtain ⟨rfl, rfl, rfl⟩ := hcs
    exact ⟨[], rfl, fun k hk => absurd hk (by simp), fun x hx => by cases hx⟩
  · simp at hcs
    obtain ⟨rfl, rfl, rfl⟩ := hcs
    have hzl : zs.length = cap := by simpa using hz
    refine ⟨zs.take len, by simp; omega, fun k hk => ?_, fun x hx => ?_⟩
    · have hk' : k < len := by simp at hk; omega
      have hy : y = ⟨y.block, y.off, none⟩ := spot_none (by simpa [Addr.add] using hcell 0 (by omega))
      have h1 := hcell k (by omega)
      rw [hy, add_none] at h1
      refine ⟨y.block, y.off, congrArg some hy, World.block_lt_of_cell? w ⟨y.block, y.off + k, none⟩ h1, ?_⟩
      rw [h1, List.getElem_take]
      simp [List.getD, show k < zs.length by omega]
    · have := hwz x (List.mem_of_mem_take hx)
      simpa [Lit.wf, IntKind.min, IntKind.max, IntKind.signed, IntKind.bits] using this
end
end Go.Proofs.Ytaljfpkgancidaa
