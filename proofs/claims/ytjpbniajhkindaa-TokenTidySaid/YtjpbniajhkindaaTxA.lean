/- Bytes that are read: of a slice that came in, a literal, a part of these. Bytes that are read at any address, as text. A row that a call made is read like any slice of bytes. -/
import Derived.Test.YtjpbniajhkindaaProg
import Derived.WalkKit
import Derived.Lib.Hide
import Derived.OneCell
import Derived.Laws.BytesArg
import Derived.Laws.Rows
import Derived.Deep.AppendLies
import Derived.DataElems
import Derived.Test.YtjpbniajhkindaaRow
namespace Go.Proofs.Ytjpbniajhkindaa
open Go.RowKit

/-- the bytes zs are read at a -/
structure Reads (w : World) (a : Option Addr) (zs : List Int) : Prop where
  cell : ∀ i, i < zs.length → ∃ x, a = some x ∧ x.block < w.heap.size ∧ w.cell? (x.add i) = some (.int .u8 (zs.getD i 0))
  hr : ∀ x ∈ zs, 0 ≤ x ∧ x ≤ 255
  hl : zs.length ≤ 9223372036854775807

theorem add_block (x : Addr) (i : Nat) : (x.add i).block = x.block := by unfold Addr.add; split <;> rfl

theorem Reads.below {w w' : World} {a : Option Addr} {zs : List Int} (h : Reads w a zs) (hb : Below w.heap.size w w') : Reads w' a zs :=
  ⟨fun i hi => by
    obtain ⟨x, hx, hlt, hc⟩ := h.cell i hi
    exact ⟨x, hx, Nat.lt_of_lt_of_le hlt hb.size, (hb.cell (p := x.add i) (by rw [add_block]; exact hlt)).trans hc⟩, h.hr, h.hl⟩

theorem Reads.at {w : World} {x : Addr} {zs : List Int} (h : Reads w (some x) zs) {i : Nat} (hi : i < zs.length) : w.cell? (x.add i) = some (.int .u8 (zs.getD i 0)) := by
  obtain ⟨y, hy, _, hc⟩ := h.cell i hi
  cases hy
  exact hc
theorem Reads.range {w : World} {a : Option Addr} {zs : List Int} (h : Reads w a zs) (i : Nat) : 0 ≤ zs.getD i 0 ∧ zs.getD i 0 ≤ 255 := by
  rcases Nat.lt_or_ge i zs.length with hi | hi
  · exact h.hr _ (by simp [List.getD, List.getElem?_eq_getElem hi])
  · simp [List.getD, List.getElem?_eq_none hi]

theorem Reads.nil (w : World) (a : Option Addr) : Reads w a [] := ⟨fun i hi => absurd hi (by simp), (fun x hx => by cases hx), by simp⟩

theorem reads_row {w : World} {g : Nat} {cs : Array Value} {t : TypeId} {fr : Nat × Nat} (zs : List Int) (hg : w.heap[g]? = some (.cells cs t fr)) (hc : ∀ i, i < zs.length → cs[i]? = some (.int .u8 (zs.getD i 0)))
    (hr : ∀ x ∈ zs, 0 ≤ x ∧ x ≤ 255) (hl : zs.length ≤ 9223372036854775807) : Reads w (some ⟨g, 0, none⟩) zs :=
  ⟨fun i hi => ⟨_, rfl, lt_of_block hg, by
    rw [show ((⟨g, 0, none⟩ : Addr).add i) = ⟨g, i, none⟩ by unfold Addr.add; split <;> simp_all, cell_of_row w g i cs _ _ hg]
    exact hc i hi⟩, hr, hl⟩

theorem Reads.take {w : World} {a : Option Addr} {zs : List Int} (h : Reads w a zs) (k : Nat) : Reads w a (zs.take k) :=
  ⟨fun i hi => by
    rw [List.length_take] at hi
    obtain ⟨x, hx, hb, hc⟩ := h.cell i (by omega)
    refine ⟨x, hx, hb, ?_⟩
    rw [hc]
    simp only [List.getD]
    rw [List.getElem?_take_of_lt (by omega)], fun x hx => h.hr x (List.mem_of_mem_take hx), by have := h.hl; rw [List.length_take]; omega⟩

theorem Reads.drop {w : World} {a : Option Addr} {zs : List Int} (h : Reads w a zs) (k : Nat) : Reads w (Option.map (fun x => x.add k) a) (zs.drop k) :=
  ⟨fun i hi => by
    rw [List.length_drop] at hi
    obtain ⟨x, hx, hb, hcc⟩ := h.cell (k + i) (by omega)
    subst hx
    refine ⟨x.add k, rfl, by rw [add_block]; exact hb, ?_⟩
    rw [Addr.add_add, hcc]
    simp only [List.getD]
    rw [List.getElem?_drop], fun x hx => h.hr x (List.mem_of_mem_drop hx), by have := h.hl; rw [List.length_drop]; omega⟩

theorem Reads.dropAll {w : World} {a : Option Addr} {zs : List Int} {k : Nat} (_ : Reads w a zs) (hz : k = zs.length) : Reads w a (zs.drop k) := by
  rw [List.drop_eq_nil_of_le (by omega)]
  exact Reads.nil w a

/-- a slice that has bytes has an address -/
theorem Reads.there {w : World} {a : Option Addr} {zs : List Int} (h : Reads w a zs) (hl : 0 < zs.length) : ∃ x, a = some x := by
  obtain ⟨x, hx, _⟩ := h.cell 0 hl
  exact ⟨x, hx⟩

theorem Reads.news {w : World} {x : Addr} {zs : List Int} (h : Reads w (some x) zs) : ∀ j u, (zs.map (Value.int .u8))[j]? = some u → w.cell? (x.add j) = some u := by
  intro j u hu
  have hj : j < zs.length := by
    have := (List.getElem?_eq_some_iff.1 hu).1
    simpa using this
  rw [h.at hj, ← hu]
  simp [List.getD, hj]

theorem bounds_i64 {n : Int} (h : (Lit.int .i64 n).wf = true) : -9223372036854775808 ≤ n ∧ n ≤ 9223372036854775807 := by
  simpa [Lit.wf, IntKind.min, IntKind.max, IntKind.signed, IntKind.bits] using h
theorem bounds_u32 {n : Int} (h : (Lit.int .u32 n).wf = true) : 0 ≤ n ∧ n ≤ 4294967295 := by
  simpa [Lit.wf, IntKind.min, IntKind.max, IntKind.signed, IntKind.bits] using h

/-- what a slice of bytes that came in reads as -/
theorem row_reads {w : World} {a : Option Addr} {len cap : Nat} {zs : List Int}
    (h : (a = none ∧ len = 0 ∧ cap = 0 ∧ zs = []) ∨ ∃ x, a = some x ∧ len ≤ cap ∧ cap ≤ maxLen ∧ zs.length = cap ∧ (∀ i, i < zs.length → w.cell? (x.add i) = some (.int .u8 (zs.getD i 0))) ∧ ∀ n ∈ zs, (Lit.int .u8 n).wf = true) :
    Reads w a (zs.take len) ∧ len = (zs.take len).length ∧ len ≤ cap ∧ cap ≤ 9223372036854775807 := by
  unfold maxLen at h
  rcases h with ⟨rfl, rfl, rfl, rfl⟩ | ⟨x, rfl, hl, hm, hz, hc, hw⟩
  · exact ⟨Reads.nil w none, rfl, Nat.le_refl _, by omega⟩
  · have hlen : (zs.take len).length = len := by rw [List.length_take]; omega
    refine ⟨⟨fun i hi => ⟨x, rfl, ?_, ?_⟩, fun y hy => ?_, by omega⟩, hlen.symm, hl, by omega⟩
    · have := World.block_lt_of_cell? w _ (hc i (by omega))
      rwa [add_block] at this
    · rw [hc i (by omega)]
      simp only [List.getD]
      rw [List.getElem?_take_of_lt (by omega)]
    · have := hw y (List.mem_of_mem_take hy)
      simpa [Lit.wf, IntKind.min, IntKind.max, IntKind.signed, IntKind.bits] using this

end Go.Proofs.Ytjpbniajhkindaa

namespace Go.Proofs.Ytjpbniajhkindaa
open Go.RowKit

theorem run_text {P : Program} (w : World) (src e : TypeId) (hs : P.underlying src = some (.slice e)) (he : P.underlying e = some (.int .u8)) (x : Addr) (cap : Nat) (zs : List Int)
    (hcell : ∀ i, i < zs.length → w.cell? (x.add i) = some (.int .u8 (zs.getD i 0))) :
    ∀ dst, P.underlying dst = some .string → (convert src dst (.slice (some x) zs.length cap)).run P w = .ok (.string (strOfNums zs)) w := by
  intro dst hd
  have hl : (loadCells x zs.length).run P w = .ok (zs.map (Value.int .u8)).toArray w := by
    have := run_loadCells_list (P := P) w x (zs.map (Value.int .u8)) (fun j v hj => by
      have hjl : j < zs.length := by
        rcases Nat.lt_or_ge j zs.length with h | h
        · exact h
        · simp [List.getElem?_eq_none (show (zs.map (Value.int .u8)).length ≤ j by simpa using h)] at hj
      rw [hcell j hjl]
      simp [List.getElem?_eq_getElem hjl] at hj
      subst hj
      simp [List.getD, List.getElem?_eq_getElem hjl])
    simpa using this
  rw [run_convert_bytes_string w src dst e _ zs.length cap hs he hd, run_bytesToString w _ zs.length cap zs hl, foldl_push_bytes]
  simp [strOfNums, ByteArray.empty, ByteArray.emptyWithCapacity]
  rfl

/-- 'string(b)' -/
theorem Reads.text {w : World} {a : Option Addr} {zs : List Int} (h : Reads w a zs) (len cap : Nat) (hz : len = zs.length) :
    (convert 33 9 (.slice a len cap)).run Try.prog w = .ok (.string (strOfNums zs)) w := by
  subst hz
  cases a with
  | some x => exact run_text w _ _ Try.underlying33 Try.underlying5 x cap zs (fun i hi => h.at hi) _ Try.underlying9
  | none =>
    cases zs with
    | nil => exact run_convert_bytes_nil w _ _ Try.underlying33 Try.underlying5 _ _ _ Try.underlying9
    | cons z zs =>
      obtain ⟨x, hx, _⟩ := h.cell 0 (by simp)
      cases hx

end Go.Proofs.Ytjpbniajhkindaa

namespace Go.Proofs.Ytjpbniajhkindaa
open Go.RowKit

theorem Row.reads {w : World} {B : Nat} {zs : List Int} {v : Value} (h : Row w B zs v) (hr : ∀ x ∈ zs, 0 ≤ x ∧ x ≤ 255) (hl : zs.length ≤ 9223372036854775807) :
    ∃ a cap, v = .slice a zs.length cap ∧ Reads w a zs ∧ zs.length ≤ cap ∧ cap ≤ 9223372036854775807 := by
  rcases h.2 with ⟨rfl, hn⟩ | ⟨g, cap, cur, rfl, hB, hg, hc, hm, _⟩
  · have : zs = [] := by
      have h1 := h.1
      rw [hn] at h1
      exact List.eq_nil_of_length_eq_zero (by simpa using h1)
    subst this
    exact ⟨none, 0, rfl, Reads.nil w none, Nat.le_refl _, by omega⟩
  · unfold maxLen at hm
    refine ⟨_, cap, rfl, reads_row zs hg (fun i hi => ?_) hr hl, hc, hm⟩
    have h' := h
    unfold Row at h'
    have := h'.cells (g := g) rfl i (.int .u8 (zs.getD i 0)) (by simp [List.getD, hi])
    rw [show ((⟨g, 0, none⟩ : Addr).add i) = ⟨g, i, none⟩ by unfold Addr.add; split <;> simp_all, cell_of_row w g i cur _ _ hg] at this
    exact this

end Go.Proofs.Ytjpbniajhkindaa
