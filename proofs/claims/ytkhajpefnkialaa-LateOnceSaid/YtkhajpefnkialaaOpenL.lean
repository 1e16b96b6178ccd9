/- The law's parameter is opened: a lot. -/
import Derived.Test.YtkhajpefnkialaaOnceLaw
import Derived.Deep.SlicePairs
import Derived.Lib.SmallJoins
import Derived.ProofKit
namespace Go.Proofs.Ytkhajpefnkialaa.Job
open Go.ChangeShapes Go.WideShapes Go.RowKit Go.Lib

theorem spotNone {w : World} {x : Addr} {v : Value} (h : w.cell? x = some v) : x = ⟨x.block, x.off, none⟩ := by
  obtain ⟨b, o, s⟩ := x
  cases s with
  | none => rfl
  | some n =>
    unfold World.cell? at h
    split at h
    · simp at h
    · cases h
theorem of_wf_i {x : Int} (h : (Lit.int .i64 x).wf = true) : -9223372036854775808 ≤ x ∧ x ≤ 9223372036854775807 := by
  simpa [Lit.wf, IntKind.min, IntKind.max, IntKind.signed, IntKind.bits] using h
theorem cellsLot : Try.prog.cellsOf 24 = 6 := by kernel_rfl
theorem array6 {α : Type} {cs : Array α} (h : cs.size = 6) : ∃ c0 c1 c2 c3 c4 c5, cs = #[c0, c1, c2, c3, c4, c5] := by
  obtain ⟨l⟩ := cs
  match l, h with
  | [c0, c1, c2, c3, c4, c5], _ => exact ⟨c0, c1, c2, c3, c4, c5, rfl⟩
section
variable {H : Type} {enc : TypeId × Value → H} {w : World} {base : Nat} {held : Bool}
/-- numbers that came in -/
theorem open_i64s {fuel : Nat} {a : Option Addr} {len cap : Nat} {x : DataW H × List MemPlace} (h : DataW.trod enc Try.prog w base (fun _ => true) held fuel 22 [.slice a len cap] = some x) :
    ∃ zs : List Int, zs.length = len ∧ Vals w a (zs.map iv) ∧ (∀ x ∈ zs, x ≤ 9223372036854775807) ∧ (a = none → len = 0 ∧ cap = 0) := by
  rcases open_ints Try.underlying22 Try.underlying2 (by kernel_rfl) h with ⟨hcs, _⟩ | ⟨y, l, c, zs, hcs, _, hl, hm, hz, _, hcell, hwz⟩
  · simp at hcs
    obtain ⟨rfl, rfl, rfl⟩ := hcs
    exact ⟨[], rfl, Vals.nil _ _, (fun x hx => by cases hx), fun _ => ⟨rfl, rfl⟩⟩
  · simp at hcs
    obtain ⟨rfl, rfl, rfl⟩ := hcs
    have hzl : zs.length = cap := by simpa using hz
    refine ⟨zs.take len, by simp; omega, ?_, fun x hx => (of_wf_i (hwz x (List.mem_of_mem_take hx))).2, fun e => by cases e⟩
    by_cases hc0 : cap = 0
    · obtain rfl : zs = [] := List.eq_nil_of_length_eq_zero (by omega)
      rw [List.take_nil]
      exact Vals.nil _ _
    · have hy : y = ⟨y.block, y.off, none⟩ := spotNone (by simpa [Addr.add] using hcell 0 (by omega))
      refine ⟨y.block, y.off, fun _ => congrArg some hy, fun k hk => ?_⟩
      have hk' : k < len := by simp at hk; omega
      have h1 := hcell k (by omega)
      rw [hy, addNone] at h1
      refine ⟨World.block_lt_of_cell? w ⟨y.block, y.off + k, none⟩ h1, ?_⟩
      rw [h1, List.getElem_map, List.getElem_take]
      simp [List.getD, show k < zs.length by omega, iv]
set_option maxRecDepth 100000 in
set_option maxHeartbeats 1000000 in
/-- a lot that came in -/
theorem open_lot {r : Reach} {b0 : Nat} {v : Value} {d : DataW H} {p : List MemPlace} (hv : Value.okWide Try.prog w r b0 24 v) (h : DataW.Trod enc Try.prog w base (fun _ => true) held 24 v d p) :
    ∃ l : Lt, v = l.val ∧ LtF w l ∧ ∀ x ∈ l.cs, x ≤ 9223372036854775807 := by
  obtain ⟨cs, rfl, hsz⟩ := okWide_struct Try.underlying24 hv
  obtain ⟨c0, c1, c2, c3, c4, c5, rfl⟩ := array6 (hsz.trans cellsLot)
  obtain ⟨fuel, hf⟩ := h
  obtain ⟨xs, n, -, hx, hl, hlen, hf⟩ := DataW.trod_struct Try.underlying24 hf
  match xs, hlen with
  | [y0, y1, y2, y3, y4, y5], _ =>
    have h0 : DataW.trod enc Try.prog w base (fun _ => true) held n 3 [c0] = some y0 := hf 0 _ rfl
    have h1 : DataW.trod enc Try.prog w base (fun _ => true) held n 2 [c1] = some y1 := hf 1 _ rfl
    have h2 : DataW.trod enc Try.prog w base (fun _ => true) held n 2 [c2] = some y2 := hf 2 _ rfl
    have h3 : DataW.trod enc Try.prog w base (fun _ => true) held n 22 [c3] = some y3 := hf 3 _ rfl
    have h4 : DataW.trod enc Try.prog w base (fun _ => true) held n 22 [c4] = some y4 := hf 4 _ rfl
    have h5 : DataW.trod enc Try.prog w base (fun _ => true) held n 3 [c5] = some y5 := hf 5 _ rfl
    obtain ⟨pol, e0, -, -⟩ := DataW.trod_int Try.underlying3 h0
    obtain ⟨gra, e1, -, -⟩ := DataW.trod_int Try.underlying2 h1
    obtain ⟨now, e2, -, -⟩ := DataW.trod_int Try.underlying2 h2
    obtain ⟨room, e5, -, -⟩ := DataW.trod_int Try.underlying3 h5
    have hs : ∀ (c : Value) y, DataW.trod enc Try.prog w base (fun _ => true) held n 22 [c] = some y → ∃ a len cap, c = .slice a len cap := fun c y hc => by
      rcases open_ints Try.underlying22 Try.underlying2 (by kernel_rfl) hc with ⟨hcs, _⟩ | ⟨y, l, c, zs, hcs, _⟩
      · exact ⟨_, _, _, by simpa using hcs⟩
      · exact ⟨_, _, _, by simpa using hcs⟩
    obtain ⟨a3, l3, k3, rfl⟩ := hs _ _ h3
    obtain ⟨a4, l4, k4, rfl⟩ := hs _ _ h4
    obtain ⟨z3, rfl, hz3, -, hn3⟩ := open_i64s h3
    obtain ⟨z4, rfl, hz4, hu4, hn4⟩ := open_i64s h4
    obtain rfl : c0 = .int .i64 pol := by simpa using e0
    obtain rfl : c1 = .int .i64 gra := by simpa using e1
    obtain rfl : c2 = .int .i64 now := by simpa using e2
    obtain rfl : c5 = .int .i64 room := by simpa using e5
    exact ⟨⟨pol, gra, now, a3, k3, z3, a4, k4, z4, room⟩, rfl, ⟨⟨hz3, hn3⟩, ⟨hz4, hn4⟩⟩, hu4⟩
end
end Go.Proofs.Ytkhajpefnkialaa.Job
