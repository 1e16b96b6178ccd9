/- A row of bytes that the law made, its bits turned, and added to another row's. -/
import Derived.Test.YtjpbniajhkindaaOfA
import Derived.Laws.MakeOwn
namespace Go.Proofs.Ytjpbniajhkindaa
open Go.RowKit

/-- the bytes lie in the block g, and may be written -/
structure LayB (w : World) (g : Nat) (zs : List Int) : Prop where
  blk : ∃ cs, w.heap[g]? = some (.cells cs 5 (0, 0)) ∧ ∀ m, m < zs.length → cs[m]? = some (.int .u8 (zs.getD m 0))

theorem LayB.cell {w : World} {g : Nat} {zs : List Int} (h : LayB w g zs) (m : Nat) (hm : m < zs.length) : w.cell? ⟨g, m, none⟩ = some (.int .u8 (zs.getD m 0)) := by
  obtain ⟨cs, hg, hc⟩ := h.blk
  rw [cell_of_row w g m cs _ _ hg]
  exact hc m hm
theorem LayB.free {w : World} {g : Nat} {zs : List Int} (h : LayB w g zs) (m : Nat) : w.frozen? ⟨g, m, none⟩ = false := by
  obtain ⟨cs, hg, _⟩ := h.blk
  exact frozen_of_row w g m cs _ hg
theorem LayB.lt {w : World} {g : Nat} {zs : List Int} (h : LayB w g zs) : g < w.heap.size := by
  obtain ⟨cs, hg, _⟩ := h.blk
  exact lt_of_block hg
theorem LayB.store {w : World} {g : Nat} {zs : List Int} (h : LayB w g zs) (j : Nat) (v : Int) : LayB (w.setCell ⟨g, j, none⟩ (.int .u8 v)) g (zs.set j v) := by
  obtain ⟨cs, hg, hc⟩ := h.blk
  refine ⟨_, heap_setCell_same w g j cs _ _ hg, fun m hm => ?_⟩
  rw [List.length_set] at hm
  rw [Array.getElem?_setIfInBounds]
  have hlt : m < cs.size := by
    rcases Nat.lt_or_ge m cs.size with h' | h'
    · exact h'
    · have := hc m hm; rw [Array.getElem?_eq_none h'] at this; cases this
  by_cases hj : j = m
  · subst hj
    simp [hlt, List.getD, hm]
  · rw [if_neg hj, hc m hm]
    simp only [List.getD]
    rw [List.getElem?_set_ne hj]
theorem LayB.other {w w' : World} {g : Nat} {zs : List Int} (h : LayB w g zs) (he : w'.heap[g]? = w.heap[g]?) : LayB w' g zs := by
  obtain ⟨cs, hg, hc⟩ := h.blk
  exact ⟨cs, he.trans hg, hc⟩
theorem LayB.below {w w' : World} {g : Nat} {zs : List Int} (h : LayB w g zs) (hb : Below w.heap.size w w') : LayB w' g zs := h.other (hb.block g h.lt)
theorem LayB.reads {w : World} {g : Nat} {zs : List Int} (h : LayB w g zs) (hr : ∀ x ∈ zs, 0 ≤ x ∧ x ≤ 255) (hl : zs.length ≤ 9223372036854775807) : Reads w (some ⟨g, 0, none⟩) zs := by
  obtain ⟨cs, hg, hc⟩ := h.blk
  exact reads_row zs hg hc hr hl

/-- bits that stand within the first i of 32 -/
def tog (p m i q : Nat) : Bool := decide (p ≤ q) && decide (q < p + i) && m.testBit (q - p)
theorem tog_zero (p m q : Nat) : tog p m 0 q = false := by unfold tog; simp; omega
theorem tog_all (p m q : Nat) : tog p m 32 q = Crc.burst p m q := rfl
theorem tog_next (p m i q : Nat) : tog p m (i + 1) q = (tog p m i q ^^ (m.testBit i && decide (q = p + i))) := by
  unfold tog
  by_cases h : q = p + i
  · subst h
    simp
  · rw [decide_eq_false h, Bool.and_false, Bool.xor_false]
    congr 2
    simp
    omega

structure Spoilt (zs : List Int) (p m i : Nat) (cs : List Int) : Prop where
  len : cs.length = zs.length
  hr : ∀ x ∈ cs, 0 ≤ x ∧ x ≤ 255
  bit : ∀ q, q < 8 * zs.length → Crc.raw cs q = (Crc.raw zs q ^^ tog p m i q)

theorem Spoilt.start {zs : List Int} (hr : ∀ x ∈ zs, 0 ≤ x ∧ x ≤ 255) (p m : Nat) : Spoilt zs p m 0 zs := ⟨rfl, hr, fun q _ => by rw [tog_zero, Bool.xor_false]⟩
theorem Spoilt.skip {zs cs : List Int} {p m i : Nat} (h : Spoilt zs p m i cs) (hb : m.testBit i = false) : Spoilt zs p m (i + 1) cs :=
  ⟨h.len, h.hr, fun q hq => by rw [h.bit q hq, tog_next, hb, Bool.false_and, Bool.xor_false]⟩
theorem Spoilt.turn {zs cs : List Int} {p m i : Nat} (h : Spoilt zs p m i cs) (hb : m.testBit i = true) (v : Nat) (hv : cs.getD ((p + i) / 8) 0 = (v : Int)) (hv2 : v < 256) :
    Spoilt zs p m (i + 1) (cs.set ((p + i) / 8) ((v ^^^ 2 ^ ((p + i) % 8) : Nat) : Int)) := by
  refine ⟨by rw [List.length_set]; exact h.len, fun x hx => ?_, fun q hq => ?_⟩
  · rcases List.mem_or_eq_of_mem_set hx with hx | rfl
    · exact h.hr x hx
    · have h2 : 2 ^ ((p + i) % 8) < 2 ^ 8 := Nat.pow_lt_pow_right (by decide) (Nat.mod_lt _ (by decide))
      have : v ^^^ 2 ^ ((p + i) % 8) < 2 ^ 8 := Nat.xor_lt_two_pow hv2 h2
      omega
  · rw [tog_next, hb, Bool.true_and, ← Bool.xor_assoc, ← h.bit q hq]
    unfold Crc.raw
    have hl := h.len
    by_cases hq8 : q / 8 = (p + i) / 8
    · rw [← hq8]
      rw [← hq8] at hv
      rw [hv]
      have : (cs.set (q / 8) ((v ^^^ 2 ^ ((p + i) % 8) : Nat) : Int)).getD (q / 8) 0 = ((v ^^^ 2 ^ ((p + i) % 8) : Nat) : Int) := by
        simp only [List.getD]
        rw [List.getElem?_set_self (by omega)]
        rfl
      rw [this, Int.toNat_natCast, Int.toNat_natCast, Nat.testBit_xor, Nat.testBit_two_pow]
      congr 1
      rw [decide_eq_decide]
      omega
    · have : (cs.set ((p + i) / 8) ((v ^^^ 2 ^ ((p + i) % 8) : Nat) : Int)).getD (q / 8) 0 = cs.getD (q / 8) 0 := by
        simp only [List.getD]
        rw [List.getElem?_set_ne (fun e => hq8 e.symm)]
      rw [this, show decide (q = p + i) = false by simp; omega, Bool.xor_false]

/-- the first k bytes of both rows, added -/
def both (ys bs : List Int) (k : Nat) : List Int := (List.range ys.length).map fun m => if m < k then (((ys.getD m 0).toNat ^^^ (bs.getD m 0).toNat : Nat) : Int) else 0
theorem both_len (ys bs : List Int) (k : Nat) : (both ys bs k).length = ys.length := by simp [both]
theorem both_at (ys bs : List Int) (k m : Nat) (hm : m < ys.length) : (both ys bs k).getD m 0 = if m < k then (((ys.getD m 0).toNat ^^^ (bs.getD m 0).toNat : Nat) : Int) else 0 := by
  simp [both, hm]
theorem both_next (ys bs : List Int) (k : Nat) : (both ys bs k).set k (((ys.getD k 0).toNat ^^^ (bs.getD k 0).toNat : Nat) : Int) = both ys bs (k + 1) := by
  apply List.ext_getElem
  · simp [both]
  · intro i h1 h2
    have hi : i < ys.length := by simpa [both] using h2
    rw [List.getElem_set]
    by_cases h : k = i
    · subst h
      simp [both]
    · rw [if_neg h]
      by_cases h3 : i < k
      · simp [both, h3, show i < k + 1 by omega]
      · simp [both, h3, show ¬ i < k + 1 by omega]
theorem getD_range {zs : List Int} (hr : ∀ x ∈ zs, 0 ≤ x ∧ x ≤ 255) (i : Nat) : 0 ≤ zs.getD i 0 ∧ zs.getD i 0 ≤ 255 := by
  rcases Nat.lt_or_ge i zs.length with hi | hi
  · exact hr _ (by simp [List.getD, List.getElem?_eq_getElem hi])
  · simp [List.getD, List.getElem?_eq_none hi]
theorem both_range {ys bs : List Int} (ha : ∀ x ∈ ys, 0 ≤ x ∧ x ≤ 255) (hb : ∀ x ∈ bs, 0 ≤ x ∧ x ≤ 255) (k : Nat) : ∀ x ∈ both ys bs k, 0 ≤ x ∧ x ≤ 255 := by
  intro x hx
  obtain ⟨m, _, rfl⟩ := List.mem_map.1 hx
  split
  · have h1 := getD_range ha m
    have h2 := getD_range hb m
    have : (ys.getD m 0).toNat ^^^ (bs.getD m 0).toNat < 2 ^ 8 := Nat.xor_lt_two_pow (by omega) (by omega)
    omega
  · omega
theorem both_raw (ys bs : List Int) (q : Nat) (hq : q < 8 * ys.length) : Crc.raw (both ys bs ys.length) q = (Crc.raw ys q ^^ Crc.raw bs q) := by
  unfold Crc.raw
  rw [both_at _ _ _ _ (by omega), if_pos (by omega), Int.toNat_natCast, Nat.testBit_xor]

def zerosZ (n : Nat) : List Int := (List.range n).map fun _ => 0
theorem zerosZ_len (n : Nat) : (zerosZ n).length = n := by simp [zerosZ]
theorem zerosZ_range (n : Nat) : ∀ x ∈ zerosZ n, (0 : Int) ≤ x ∧ x ≤ 255 := by
  intro x hx
  obtain ⟨m, _, rfl⟩ := List.mem_map.1 hx
  omega
theorem zerosZ_at (n m : Nat) : (zerosZ n).getD m 0 = 0 := by
  rcases Nat.lt_or_ge m n with h | h
  · simp [zerosZ, h]
  · simp [zerosZ, h]
theorem zerosZ_raw (n q : Nat) : Crc.raw (zerosZ n) q = false := by
  unfold Crc.raw
  rw [zerosZ_at]
  simp
theorem both_zero (ys bs : List Int) : both ys bs 0 = zerosZ ys.length := by simp [both, zerosZ]

/-- the block that 'make([]byte, n)' makes -/
def made (n : Nat) : Obj := .cells (madeCells (Value.int .u8 0).cells n) 5
theorem made_lay (w : World) (n : Nat) : LayB (w.alloc (made n)) w.heap.size (zerosZ n) :=
  ⟨_, heap_alloc_new w _, fun m hm => by
    rw [zerosZ_len] at hm
    rw [zerosZ_at]
    simp [madeCells, Value.cells, hm, Nat.mod_one]⟩

theorem infoByte : (Try.prog.info? 5).map (fun i => (i.zero, i.size, i.bytes)) = some (some (.int .u8 0), 1, 1) := by kernel_rfl

theorem make_bytes (n : Nat) (hn : n ≤ 300) (w : World) : (Instr.makeSlice 33 (.int .i64 (n : Int)) (.int .i64 (n : Int))).run Try.prog w = .ok (.slice (some ⟨w.heap.size, 0, none⟩) n n) (w.alloc (made n)) := by
  obtain ⟨i0, hi, hz0, hz1, hz2⟩ := info_parts infoByte
  have := run_make (P := Try.prog) w 33 5 i0 (.int .u8 0) Try.underlying33 hi hz0 .i64 .i64 (n : Int) (n : Int) (by omega) (Int.le_refl _) (by rw [hz2]; omega) (by omega)
  rw [this, hz1]
  simp [made]

end Go.Proofs.Ytjpbniajhkindaa
