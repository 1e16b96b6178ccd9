/- A row of bits, as numbers, that the reference itself made. -/
import Derived.Test.YtjpbniajhkindaaOfA
namespace Go.Proofs.Ytjpbniajhkindaa
open Go.RowKit

theorem infoInt : (Try.prog.info? 3).map (fun i => (i.zero, i.size, i.bytes)) = some (some (.int .i64 0), 1, 8) := by kernel_rfl

def bi (b : Bool) : Int := if b then 1 else 0
theorem bi_or (b : Bool) : bi b = 0 ∨ bi b = 1 := by cases b <;> simp [bi]

def cellsOf (N : Nat) (f : Nat → Bool) : List Value := (List.range N).map fun m => .int .i64 (bi (f m))
theorem cellsOf_snoc (N : Nat) (f : Nat → Bool) : cellsOf N f ++ [.int .i64 (bi (f N))] = cellsOf (N + 1) f := by simp [cellsOf, List.range_succ]
theorem cellsOf_at (N : Nat) (f : Nat → Bool) (m : Nat) (hm : m < N) : (cellsOf N f)[m]? = some (.int .i64 (bi (f m))) := by simp [cellsOf, hm]
theorem cellsOf_len (N : Nat) (f : Nat → Bool) : (cellsOf N f).length = N := by simp [cellsOf]

/-- v holds the bits f, N of them, in a block from B on -/
def Bits (w : World) (B N : Nat) (f : Nat → Bool) (v : Value) : Prop := w.ownsRow B 3 1 v N (cellsOf N f)

theorem Bits.shape {w : World} {B N : Nat} {f : Nat → Bool} {v : Value} (h : Bits w B N f v) : ∃ a c, v = .slice a N c := by
  rcases h.2 with ⟨rfl, hn⟩ | ⟨g, cap, cur, rfl, _⟩
  · have : N = 0 := by simpa [cellsOf_len] using hn
    subst this
    exact ⟨_, _, rfl⟩
  · exact ⟨_, _, rfl⟩

theorem Bits.snoc {w : World} {B N : Nat} {f : Nat → Bool} {v : Value} (h : w.ownsRow B 3 1 v (N + 1) (cellsOf N f ++ [.int .i64 (bi (f N))])) : Bits w B (N + 1) f v := by
  rw [cellsOf_snoc] at h
  exact h

/-- the powers, as the reference lays them -/
def pows : Array Value := #[.int .i64 28, .int .i64 27, .int .i64 26, .int .i64 25, .int .i64 23, .int .i64 22, .int .i64 20, .int .i64 19, .int .i64 18, .int .i64 14, .int .i64 13, .int .i64 11, .int .i64 10, .int .i64 9, .int .i64 8, .int .i64 6, .int .i64 0]
theorem pows_at (k : Nat) (hk : k < 17) : pows[k]? = some (.int .i64 (Crc.P k : Int)) := by
  have hall : ∀ k, k < 17 → pows[k]? = some (.int .i64 (Crc.P k : Int)) := by
    intro k hk
    have : k = 0 ∨ k = 1 ∨ k = 2 ∨ k = 3 ∨ k = 4 ∨ k = 5 ∨ k = 6 ∨ k = 7 ∨ k = 8 ∨ k = 9 ∨ k = 10 ∨ k = 11 ∨ k = 12 ∨ k = 13 ∨ k = 14 ∨ k = 15 ∨ k = 16 := by omega
    rcases this with rfl | rfl | rfl | rfl | rfl | rfl | rfl | rfl | rfl | rfl | rfl | rfl | rfl | rfl | rfl | rfl | rfl <;> rfl
  exact hall k hk
theorem P_le (k : Nat) (hk : k < 17) : Crc.P k ≤ 28 := by
  have hall : ∀ k, k < 17 → Crc.P k ≤ 28 := by decide
  exact hall k hk

/-- the bits lie in the block g, and may be written -/
structure Lay (w : World) (g N : Nat) (f : Nat → Bool) : Prop where
  blk : ∃ cs, w.heap[g]? = some (.cells cs 3 (0, 0)) ∧ ∀ m, m < N → cs[m]? = some (.int .i64 (bi (f m)))

theorem Lay.cell {w : World} {g N : Nat} {f : Nat → Bool} (h : Lay w g N f) (m : Nat) (hm : m < N) : w.cell? ⟨g, m, none⟩ = some (.int .i64 (bi (f m))) := by
  obtain ⟨cs, hg, hc⟩ := h.blk
  rw [cell_of_row w g m cs _ _ hg]
  exact hc m hm
theorem Lay.cellB {w : World} {g N : Nat} {f : Nat → Bool} (h : Lay w g N f) (m : Nat) (hm : m < N) (b : Bool) (hb : f m = b) : w.cell? ⟨g, m, none⟩ = some (.int .i64 (bi b)) := by
  rw [h.cell m hm, hb]
theorem Lay.free {w : World} {g N : Nat} {f : Nat → Bool} (h : Lay w g N f) (m : Nat) : w.frozen? ⟨g, m, none⟩ = false := by
  obtain ⟨cs, hg, _⟩ := h.blk
  exact frozen_of_row w g m cs _ hg
theorem Lay.congr {w : World} {g N : Nat} {f f' : Nat → Bool} (h : Lay w g N f) (hf : ∀ m, m < N → f m = f' m) : Lay w g N f' := by
  obtain ⟨cs, hg, hc⟩ := h.blk
  exact ⟨cs, hg, fun m hm => by rw [hc m hm, hf m hm]⟩
theorem Lay.store {w : World} {g N : Nat} {f : Nat → Bool} (h : Lay w g N f) (j : Nat) (b : Bool) : Lay (w.setCell ⟨g, j, none⟩ (.int .i64 (bi b))) g N (fun m => if m = j then b else f m) := by
  obtain ⟨cs, hg, hc⟩ := h.blk
  refine ⟨_, heap_setCell_same w g j cs _ _ hg, fun m hm => ?_⟩
  rw [Array.getElem?_setIfInBounds]
  have hlt : m < cs.size := by
    rcases Nat.lt_or_ge m cs.size with h' | h'
    · exact h'
    · have := hc m hm; rw [Array.getElem?_eq_none h'] at this; cases this
  by_cases hj : j = m
  · subst hj
    simp [hlt]
  · rw [if_neg hj, if_neg (fun e => hj e.symm)]
    exact hc m hm
theorem Lay.other {w w' : World} {g N : Nat} {f : Nat → Bool} (h : Lay w g N f) (he : w'.heap[g]? = w.heap[g]?) : Lay w' g N f := by
  obtain ⟨cs, hg, hc⟩ := h.blk
  exact ⟨cs, he.trans hg, hc⟩

theorem Bits.lay {w : World} {B N : Nat} {f : Nat → Bool} {v : Value} (h : Bits w B N f v) (hN : 0 < N) :
    ∃ g cap, v = .slice (some ⟨g, 0, none⟩) N cap ∧ B ≤ g ∧ g < w.heap.size ∧ Lay w g N f := by
  rcases h.2 with ⟨_, hn⟩ | ⟨g, cap, cur, rfl, hB, hg, rest⟩
  · exfalso; have : N = 0 := by simpa [cellsOf_len] using hn
    omega
  · have h' := h
    unfold Bits at h'
    refine ⟨g, cap, rfl, hB, lt_of_block hg, cur, hg, fun m hm => ?_⟩
    have := h'.cells (g := g) rfl m _ (cellsOf_at N f m hm)
    rw [show ((⟨g, 0, none⟩ : Addr).add m) = ⟨g, m, none⟩ by unfold Addr.add; split <;> simp_all, cell_of_row w g m cur _ _ hg] at this
    exact this

theorem bi_low (q : Nat) : ((q : Int) % 2) = bi (q.testBit 0) := by
  rw [Nat.testBit_zero]
  unfold bi
  by_cases h : q % 2 = 1
  · simp [h]; omega
  · simp [h]; omega
theorem raw_bit (zs : List Int) (k t : Nat) (ht : t < 8) (z : Nat) (hz : zs.getD k 0 = z) : Crc.raw zs (8 * k + t) = (z / 2 ^ t).testBit 0 := by
  unfold Crc.raw
  rw [show (8 * k + t) / 8 = k by omega, show (8 * k + t) % 8 = t by omega, hz, Int.toNat_natCast, Nat.testBit_div_two_pow, Nat.zero_add]

theorem bi_not (b : Bool) : (1 : Int) - bi b = bi (!b) := by cases b <;> rfl
theorem bi_le (b : Bool) : 0 ≤ bi b ∧ bi b ≤ 1 := by cases b <;> simp [bi]

theorem flip_next (r : Nat → Bool) (t m : Nat) : (if m = t then !(r t) else (r m ^^ decide (m < t))) = (r m ^^ decide (m < t + 1)) := by
  by_cases h : m = t
  · subst h
    simp
  · rw [if_neg h]
    congr 1
    simp
    omega

/-- the first q powers' places, from k on, are turned -/
def Turned (f : Nat → Bool) (k q : Nat) (f' : Nat → Bool) : Prop := ∀ m, k < m → f' m = (f m ^^ Crc.T q (m - k))
theorem Turned.zero (f : Nat → Bool) (k : Nat) (b : Bool) : Turned f k 0 (fun m => if m = k then b else f m) := fun m hm => by
  show (if m = k then b else f m) = _
  rw [if_neg (by omega)]; simp [Crc.T]
theorem Turned.next {f f' : Nat → Bool} {k q : Nat} (h : Turned f k q f') (hq : Crc.P q ≤ 28) : Turned f k (q + 1) (fun m => if m = k + 32 - Crc.P q then !f' (k + 32 - Crc.P q) else f' m) := fun m hm => by
  show (if m = k + 32 - Crc.P q then !f' (k + 32 - Crc.P q) else f' m) = (f m ^^ (Crc.T q (m - k) ^^ decide (m - k = 32 - Crc.P q)))
  by_cases hj : m = k + 32 - Crc.P q
  · rw [if_pos hj, ← hj, h m hm, show decide (m - k = 32 - Crc.P q) = true by simp; omega]
    cases f m <;> cases Crc.T q (m - k) <;> rfl
  · rw [if_neg hj, h m hm, show decide (m - k = 32 - Crc.P q) = false by simp; omega, Bool.xor_false]

/-- the one cell of a block that has just been made -/
theorem bits_new (w : World) (x : Value) (t : TypeId) : ∀ j u, [x][j]? = some u → (w.alloc (.cells #[x] t)).cell? ((⟨w.heap.size, 0, none⟩ : Addr).add j) = some u := by
  intro j u hj
  match j, hj with
  | 0, hj => simp at hj; subst hj; simp [Addr.add]

end Go.Proofs.Ytjpbniajhkindaa
