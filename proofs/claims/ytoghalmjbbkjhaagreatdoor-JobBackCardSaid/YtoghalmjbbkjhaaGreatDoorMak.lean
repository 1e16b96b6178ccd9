/- Bytes that are read: of a slice that came in, a literal, a part of these. The laws' parameters are opened: a job, bytes. -/
import Derived.Test.YtoghalmjbbkjhaaGreatDoorProg
import Derived.WalkKit
import Derived.Lib.Hide
import Derived.OneCell
import Derived.Laws.BytesArg
import Derived.Laws.Rows
import Derived.Deep.AppendLies
import Derived.DataElems
import Derived.Test.YtoghalmjbbkjhaaGreatDoorMag
import Derived.Test.YtoghalmjbbkjhaaGreatDoorPutJ
import Derived.Deep.SlicePairs
import Derived.Lib.SmallJoins
import Derived.ProofKit
namespace Go.Proofs.YtoghalmjbbkjhaaGreatDoor.Pk
open Go.RowKit

/-- the bytes zs are read at a -/
structure Reads (w : World) (a : Option Addr) (zs : List Int) : Prop where
  cell : ∀ i, i < zs.length → ∃ x, a = some x ∧ x.block < w.heap.size ∧ w.cell? (x.add i) = some (.int .u8 (zs.getD i 0))
  hr : ∀ x ∈ zs, 0 ≤ x ∧ x ≤ 255
  hl : zs.length ≤ 9223372036854775807

theorem add_block (x : Addr) (i : Nat) : (x.add i).block = x.block := by unfold Addr.add; split <;> rfl

theorem Reads.below {w w' : World} {a : Option Addr} {zs : List Int} (h : Reads w a zs) (hb : Below w.heap.size w w') : Reads w' a zs :=
  ⟨fun i hi => by
    obtain ⟨x, hx, hlt, hc⟩ := h.cell i hi
    exact ⟨x, hx, Nat.lt_of_lt_of_le hlt hb.size, (hb.cell (p := x.add i) (by rw [add_block]; exact hlt)).trans hc⟩, h.hr, h.hl⟩

theorem Reads.at {w : World} {x : Addr} {zs : List Int} (h : Reads w (some x) zs) {i : Nat} (hi : i < zs.length) : w.cell? (x.add i) = some (.int .u8 (zs.getD i 0)) := by
  obtain ⟨y, hy, _, hc⟩ := h.cell i hi
  cases hy
  exact hc
theorem Reads.range {w : World} {a : Option Addr} {zs : List Int} (h : Reads w a zs) (i : Nat) : 0 ≤ zs.getD i 0 ∧ zs.getD i 0 ≤ 255 := by
  rcases Nat.lt_or_ge i zs.length with hi | hi
  · exact h.hr _ (by simp [List.getD, List.getElem?_eq_getElem hi])
  · simp [List.getD, List.getElem?_eq_none hi]

theorem Reads.nil (w : World) (a : Option Addr) : Reads w a [] := ⟨fun i hi => absurd hi (by simp), (fun x hx => by cases hx), by simp⟩

theorem reads_row {w : World} {g : Nat} {cs : Array Value} {t : TypeId} {fr : Nat × Nat} (zs : List Int) (hg : w.heap[g]? = some (.cells cs t fr)) (hc : ∀ i, i < zs.length → cs[i]? = some (.int .u8 (zs.getD i 0)))
    (hr : ∀ x ∈ zs, 0 ≤ x ∧ x ≤ 255) (hl : zs.length ≤ 9223372036854775807) : Reads w (some ⟨g, 0, none⟩) zs :=
  ⟨fun i hi => ⟨_, rfl, lt_of_block hg, by
    rw [show ((⟨g, 0, none⟩ : Addr).add i) = ⟨g, i, none⟩ by unfold Addr.add; split <;> simp_all, cell_of_row w g i cs _ _ hg]
    exact hc i hi⟩, hr, hl⟩

theorem Reads.take {w : World} {a : Option Addr} {zs : List Int} (h : Reads w a zs) (k : Nat) : Reads w a (zs.take k) :=
  ⟨fun i hi => by
    rw [List.length_take] at hi
    obtain ⟨x, hx, hb, hc⟩ := h.cell i (by omega)
    refine ⟨x, hx, hb, ?_⟩
    rw [hc]
    simp only [List.getD]
    rw [List.getElem?_take_of_lt (by omega)], fun x hx => h.hr x (List.mem_of_mem_take hx), by have := h.hl; rw [List.length_take]; omega⟩

theorem Reads.drop {w : World} {a : Option Addr} {zs : List Int} (h : Reads w a zs) (k : Nat) : Reads w (Option.map (fun x => x.add k) a) (zs.drop k) :=
  ⟨fun i hi => by
    rw [List.length_drop] at hi
    obtain ⟨x, hx, hb, hcc⟩ := h.cell (k + i) (by omega)
    subst hx
    refine ⟨x.add k, rfl, by rw [add_block]; exact hb, ?_⟩
    rw [Addr.add_add, hcc]
    simp only [List.getD]
    rw [List.getElem?_drop], fun x hx => h.hr x (List.mem_of_mem_drop hx), by have := h.hl; rw [List.length_drop]; omega⟩

theorem Reads.dropAll {w : World} {a : Option Addr} {zs : List Int} {k : Nat} (_ : Reads w a zs) (hz : k = zs.length) : Reads w a (zs.drop k) := by
  rw [List.drop_eq_nil_of_le (by omega)]
  exact Reads.nil w a

/-- a slice that has bytes has an address -/
theorem Reads.there {w : World} {a : Option Addr} {zs : List Int} (h : Reads w a zs) (hl : 0 < zs.length) : ∃ x, a = some x := by
  obtain ⟨x, hx, _⟩ := h.cell 0 hl
  exact ⟨x, hx⟩

theorem Reads.news {w : World} {x : Addr} {zs : List Int} (h : Reads w (some x) zs) : ∀ j u, (zs.map (Value.int .u8))[j]? = some u → w.cell? (x.add j) = some u := by
  intro j u hu
  have hj : j < zs.length := by
    have := (List.getElem?_eq_some_iff.1 hu).1
    simpa using this
  rw [h.at hj, ← hu]
  simp [List.getD, hj]

theorem bounds_i64 {n : Int} (h : (Lit.int .i64 n).wf = true) : -9223372036854775808 ≤ n ∧ n ≤ 9223372036854775807 := by
  simpa [Lit.wf, IntKind.min, IntKind.max, IntKind.signed, IntKind.bits] using h
theorem bounds_u32 {n : Int} (h : (Lit.int .u32 n).wf = true) : 0 ≤ n ∧ n ≤ 4294967295 := by
  simpa [Lit.wf, IntKind.min, IntKind.max, IntKind.signed, IntKind.bits] using h

/-- what a slice of bytes that came in reads as -/
theorem row_reads {w : World} {a : Option Addr} {len cap : Nat} {zs : List Int}
    (h : (a = none ∧ len = 0 ∧ cap = 0 ∧ zs = []) ∨ ∃ x, a = some x ∧ len ≤ cap ∧ cap ≤ maxLen ∧ zs.length = cap ∧ (∀ i, i < zs.length → w.cell? (x.add i) = some (.int .u8 (zs.getD i 0))) ∧ ∀ n ∈ zs, (Lit.int .u8 n).wf = true) :
    Reads w a (zs.take len) ∧ len = (zs.take len).length ∧ len ≤ cap ∧ cap ≤ 9223372036854775807 := by
  unfold maxLen at h
  rcases h with ⟨rfl, rfl, rfl, rfl⟩ | ⟨x, rfl, hl, hm, hz, hc, hw⟩
  · exact ⟨Reads.nil w none, rfl, Nat.le_refl _, by omega⟩
  · have hlen : (zs.take len).length = len := by rw [List.length_take]; omega
    refine ⟨⟨fun i hi => ⟨x, rfl, ?_, ?_⟩, fun y hy => ?_, by omega⟩, hlen.symm, hl, by omega⟩
    · have := World.block_lt_of_cell? w _ (hc i (by omega))
      rwa [add_block] at this
    · rw [hc i (by omega)]
      simp only [List.getD]
      rw [List.getElem?_take_of_lt (by omega)]
    · have := hw y (List.mem_of_mem_take hy)
      simpa [Lit.wf, IntKind.min, IntKind.max, IntKind.signed, IntKind.bits] using this

end Go.Proofs.YtoghalmjbbkjhaaGreatDoor.Pk

namespace Go.Proofs.YtoghalmjbbkjhaaGreatDoor.Job
open Go.ChangeShapes Go.WideShapes Go.RowKit Go.Lib

theorem spotNone {w : World} {x : Addr} {v : Value} (h : w.cell? x = some v) : x = ⟨x.block, x.off, none⟩ := by
  obtain ⟨b, o, s⟩ := x
  cases s with
  | none => rfl
  | some n =>
    unfold World.cell? at h
    split at h
    · simp at h
    · cases h
theorem addNone (b q i : Nat) : (⟨b, q, none⟩ : Addr).add i = ⟨b, q + i, none⟩ := by
  unfold Addr.add
  split
  · subst i; rfl
  · rfl
theorem cellsJob : Tryz.prog.cellsOf 25 = 12 := by kernel_rfl
theorem array12 {α : Type} {cs : Array α} (h : cs.size = 12) : ∃ c0 c1 c2 c3 c4 c5 c6 c7 c8 c9 c10 c11, cs = #[c0, c1, c2, c3, c4, c5, c6, c7, c8, c9, c10, c11] := by
  obtain ⟨l⟩ := cs
  match l, h with
  | [c0, c1, c2, c3, c4, c5, c6, c7, c8, c9, c10, c11], _ => exact ⟨c0, c1, c2, c3, c4, c5, c6, c7, c8, c9, c10, c11, rfl⟩
section
variable {H : Type} {enc : TypeId × Value → H} {w : World} {base : Nat} {held : Bool}
/-- numbers that came in -/
theorem open_u64s {fuel : Nat} {a : Option Addr} {len cap : Nat} {x : DataW H × List MemPlace} (h : DataW.trod enc Tryz.prog w base (fun _ => true) held fuel 23 [.slice a len cap] = some x) :
    ∃ zs : List Int, zs.length = len ∧ Vals w a (zs.map uv) ∧ (∀ x ∈ zs, U64 x) ∧ len ≤ cap ∧ cap ≤ maxLen ∧ (a = none → len = 0 ∧ cap = 0) := by
  rcases open_ints Tryz.underlying23 Tryz.underlying22 (by kernel_rfl) h with ⟨hcs, _⟩ | ⟨y, l, c, zs, hcs, _, hl, hm, hz, _, hcell, hwz⟩
  · simp at hcs
    obtain ⟨rfl, rfl, rfl⟩ := hcs
    exact ⟨[], rfl, Vals.nil _ _, (fun x hx => by cases hx), Nat.le_refl _, Nat.zero_le _, fun _ => ⟨rfl, rfl⟩⟩
  · simp at hcs
    obtain ⟨rfl, rfl, rfl⟩ := hcs
    have hzl : zs.length = cap := by simpa using hz
    refine ⟨zs.take len, by simp; omega, ?_, fun x hx => of_wf_u (hwz x (List.mem_of_mem_take hx)), hl, hm, fun e => by cases e⟩
    by_cases hc0 : cap = 0
    · obtain rfl : zs = [] := List.eq_nil_of_length_eq_zero (by omega)
      rw [List.take_nil]
      exact Vals.nil _ _
    · have hy : y = ⟨y.block, y.off, none⟩ := spotNone (by simpa [Addr.add] using hcell 0 (by omega))
      refine ⟨y.block, y.off, fun _ => congrArg some hy, fun k hk => ?_⟩
      have hk' : k < len := by simp at hk; omega
      have h1 := hcell k (by omega)
      rw [hy, addNone] at h1
      refine ⟨World.block_lt_of_cell? w ⟨y.block, y.off + k, none⟩ h1, ?_⟩
      rw [h1, List.getElem_map, List.getElem_take]
      simp [List.getD, show k < zs.length by omega, uv]
/-- bytes that came in -/
theorem open_bytes {fuel : Nat} {a : Option Addr} {len cap : Nat} {x : DataW H × List MemPlace} (h : DataW.trod enc Tryz.prog w base (fun _ => true) held fuel 32 [.slice a len cap] = some x) :
    ∃ zs : List Int, Pk.Reads w a zs ∧ len = zs.length ∧ (a = none → len = 0 ∧ cap = 0) := by
  rcases open_ints Tryz.underlying32 Tryz.underlying5 (by kernel_rfl) h with ⟨hcs, _⟩ | ⟨y, l, c, zs, hcs, _, hl, hm, hz, _, hcell, hwz⟩
  · simp at hcs
    obtain ⟨rfl, rfl, rfl⟩ := hcs
    exact ⟨[], Pk.Reads.nil _ _, rfl, fun _ => ⟨rfl, rfl⟩⟩
  · simp at hcs
    obtain ⟨rfl, rfl, rfl⟩ := hcs
    obtain ⟨r, e, _, _⟩ := Pk.row_reads (w := w) (a := some y) (len := len) (cap := cap) (zs := zs) (.inr ⟨y, rfl, hl, hm, by simpa using hz, hcell, hwz⟩)
    exact ⟨zs.take len, r, e, fun e => by cases e⟩
set_option maxRecDepth 100000 in
set_option maxHeartbeats 1000000 in
/-- a job that came in -/
theorem open_job {r : Reach} {b0 : Nat} {v : Value} {d : DataW H} {p : List MemPlace} (hv : Value.okWide Tryz.prog w r b0 25 v) (h : DataW.Trod enc Tryz.prog w base (fun _ => true) held 25 v d p) :
    ∃ j : J, v = j.val ∧ JF w j := by
  obtain ⟨cs, rfl, hsz⟩ := okWide_struct Tryz.underlying25 hv
  obtain ⟨c0, c1, c2, c3, c4, c5, c6, c7, c8, c9, c10, c11, rfl⟩ := array12 (hsz.trans cellsJob)
  obtain ⟨fuel, hf⟩ := h
  obtain ⟨xs, n, -, hx, hl, hlen, hf⟩ := DataW.trod_struct Tryz.underlying25 hf
  match xs, hlen with
  | [y0, y1, y2, y3, y4, y5, y6, y7, y8, y9, y10, y11], _ =>
    have h0 : DataW.trod enc Tryz.prog w base (fun _ => true) held n 22 [c0] = some y0 := hf 0 _ rfl
    have h1 : DataW.trod enc Tryz.prog w base (fun _ => true) held n 9 [c1] = some y1 := hf 1 _ rfl
    have h2 : DataW.trod enc Tryz.prog w base (fun _ => true) held n 9 [c2] = some y2 := hf 2 _ rfl
    have h3 : DataW.trod enc Tryz.prog w base (fun _ => true) held n 3 [c3] = some y3 := hf 3 _ rfl
    have h4 : DataW.trod enc Tryz.prog w base (fun _ => true) held n 2 [c4] = some y4 := hf 4 _ rfl
    have h5 : DataW.trod enc Tryz.prog w base (fun _ => true) held n 3 [c5] = some y5 := hf 5 _ rfl
    have h6 : DataW.trod enc Tryz.prog w base (fun _ => true) held n 3 [c6] = some y6 := hf 6 _ rfl
    have h7 : DataW.trod enc Tryz.prog w base (fun _ => true) held n 2 [c7] = some y7 := hf 7 _ rfl
    have h8 : DataW.trod enc Tryz.prog w base (fun _ => true) held n 23 [c8] = some y8 := hf 8 _ rfl
    have h9 : DataW.trod enc Tryz.prog w base (fun _ => true) held n 4 [c9] = some y9 := hf 9 _ rfl
    have h10 : DataW.trod enc Tryz.prog w base (fun _ => true) held n 22 [c10] = some y10 := hf 10 _ rfl
    have h11 : DataW.trod enc Tryz.prog w base (fun _ => true) held n 2 [c11] = some y11 := hf 11 _ rfl
    obtain ⟨id, e0, -, w0⟩ := DataW.trod_int Tryz.underlying22 h0
    obtain ⟨name, e1, -, -⟩ := DataW.trod_string Tryz.underlying9 h1
    obtain ⟨expr, e2, -, -⟩ := DataW.trod_string Tryz.underlying9 h2
    obtain ⟨pol, e3, -, -⟩ := DataW.trod_int Tryz.underlying3 h3
    obtain ⟨gra, e4, -, -⟩ := DataW.trod_int Tryz.underlying2 h4
    obtain ⟨lim, e5, -, -⟩ := DataW.trod_int Tryz.underlying3 h5
    obtain ⟨ret, e6, -, -⟩ := DataW.trod_int Tryz.underlying3 h6
    obtain ⟨tim, e7, -, -⟩ := DataW.trod_int Tryz.underlying2 h7
    obtain ⟨pau, e9, -⟩ := DataW.trod_bool Tryz.underlying4 h9
    obtain ⟨ver, e10, -, w10⟩ := DataW.trod_int Tryz.underlying22 h10
    obtain ⟨seen, e11, -, -⟩ := DataW.trod_int Tryz.underlying2 h11
    have hs : ∃ a len cap, c8 = .slice a len cap := by
      rcases open_ints Tryz.underlying23 Tryz.underlying22 (by kernel_rfl) h8 with ⟨hcs, _⟩ | ⟨y, l, c, zs, hcs, _⟩
      · exact ⟨_, _, _, by simpa using hcs⟩
      · exact ⟨_, _, _, by simpa using hcs⟩
    obtain ⟨a, len, cap, rfl⟩ := hs
    obtain ⟨zs, rfl, hz, hu, hc, hm, hn⟩ := open_u64s h8
    obtain rfl : c0 = .int .u64 id := by simpa using e0
    obtain rfl : c1 = .string name := by simpa using e1
    obtain rfl : c2 = .string expr := by simpa using e2
    obtain rfl : c3 = .int .i64 pol := by simpa using e3
    obtain rfl : c4 = .int .i64 gra := by simpa using e4
    obtain rfl : c5 = .int .i64 lim := by simpa using e5
    obtain rfl : c6 = .int .i64 ret := by simpa using e6
    obtain rfl : c7 = .int .i64 tim := by simpa using e7
    obtain rfl : c9 = .bool pau := by simpa using e9
    obtain rfl : c10 = .int .u64 ver := by simpa using e10
    obtain rfl : c11 = .int .i64 seen := by simpa using e11
    exact ⟨⟨id, name, expr, pol, gra, lim, ret, tim, a, cap, zs, pau, ver, seen⟩, rfl, ⟨of_wf_u w0, of_wf_u w10, hu, hz, hn, hc, hm⟩⟩
end
end Go.Proofs.YtoghalmjbbkjhaaGreatDoor.Job
