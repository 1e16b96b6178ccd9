/- FrameTorn: what its walk stands on. -/
import Derived.Test.YtjpbniajhkindaaAllIn
import Derived.Test.YtjpbniajhkindaaSame
import Derived.Test.YtjpbniajhkindaaAppendAny
import Derived.Test.YtjpbniajhkindaaTornMath
namespace Go.Proofs.Ytjpbniajhkindaa
open Go.RowKit

theorem lay_own {w : World} {B n : Nat} {zs : List Int} {v : Value} (h : w.ownsRow B 5 1 v n (zs.map (Value.int .u8))) (hn : 0 < n) :
    ∃ g cap, v = .slice (some ⟨g, 0, none⟩) n cap ∧ B ≤ g ∧ LayB w g zs := by
  rcases h.2 with ⟨rfl, h0⟩ | ⟨g, cap, cur, rfl, hB, hg, rest⟩
  · have h1 := h.1
    rw [h0] at h1
    simp at h1
    omega
  · refine ⟨g, cap, rfl, hB, cur, hg, fun m hm => ?_⟩
    have := h.cells (g := g) rfl m (.int .u8 (zs.getD m 0)) (by simp [List.getD, hm])
    rw [show ((⟨g, 0, none⟩ : Addr).add m) = ⟨g, m, none⟩ by unfold Addr.add; split <;> simp_all, cell_of_row w g m cur _ _ hg] at this
    exact this

theorem byte_turn (v s : Nat) (hv : v < 256) (hs : s < 8) : bits .xor .u8 (v : Int) ((2 : Int) ^ s % 256) = ((v ^^^ 2 ^ s : Nat) : Int) := by
  have h2 : 2 ^ s < 256 := Nat.pow_lt_pow_right (n := 8) (by decide) hs
  have e : (2 : Int) ^ s % 256 = ((2 ^ s : Nat) : Int) := by
    have e2 : ((2 ^ s : Nat) : Int) = (2 : Int) ^ s := Int.natCast_pow 2 s
    rw [← e2]
    exact Int.emod_eq_of_lt (Int.natCast_nonneg _) (Int.ofNat_lt.2 h2)
  rw [e]
  exact u8_xor_nat v (2 ^ s) hv h2

theorem mask_set (m i : Nat) (hm : m < 4294967296) (hb : m.testBit i = true) : bits .and .u32 ((m : Int) / (2 : Int) ^ i) 1 = 1 := by
  have hq := and1_odd (m / 2 ^ i) (Nat.lt_of_le_of_lt (Nat.div_le_self _ _) hm) (by rw [Nat.testBit_div_two_pow, Nat.zero_add]; exact hb)
  rw [Int.natCast_ediv, Int.natCast_pow] at hq
  exact hq
theorem mask_clear (m i : Nat) (hm : m < 4294967296) (hb : m.testBit i = false) : bits .and .u32 ((m : Int) / (2 : Int) ^ i) 1 = 0 := by
  have hq := and1_even (m / 2 ^ i) (Nat.lt_of_le_of_lt (Nat.div_le_self _ _) hm) (by rw [Nat.testBit_div_two_pow, Nat.zero_add]; exact hb)
  rw [Int.natCast_ediv, Int.natCast_pow] at hq
  exact hq


/-- rows of bytes that came in: vs are their cells, ls their bytes -/
structure RowsIn (w : World) (a : Option Addr) (vs : List Value) (ls : List (List Int)) : Prop where
  len : vs.length = ls.length
  cell : ∀ i, i < ls.length → ∃ x A C, a = some x ∧ x.block < w.heap.size ∧ w.cell? (x.add i) = some (.slice A (ls.getD i []).length C) ∧ vs[i]? = some (.slice A (ls.getD i []).length C) ∧ Reads w A (ls.getD i [])

theorem RowsIn.slices {w : World} {a : Option Addr} {vs : List Value} {ls : List (List Int)} (h : RowsIn w a vs ls) : SlicesAt w a ls :=
  ⟨fun i hi => by
    obtain ⟨x, A, C, hx, hlt, hc, _, hr⟩ := h.cell i hi
    exact ⟨x, A, C, hx, hc, hlt, hr⟩⟩
theorem RowsIn.below {w w' : World} {a : Option Addr} {vs : List Value} {ls : List (List Int)} (h : RowsIn w a vs ls) (hb : Below w.heap.size w w') : RowsIn w' a vs ls :=
  ⟨h.len, fun i hi => by
    obtain ⟨x, A, C, hx, hlt, hc, hv, hr⟩ := h.cell i hi
    exact ⟨x, A, C, hx, Nat.lt_of_lt_of_le hlt hb.size, (hb.cell (p := x.add i) (by rw [add_block]; exact hlt)).trans hc, hv, hr.below hb⟩⟩
theorem RowsIn.news {w : World} {a : Option Addr} {vs : List Value} {ls : List (List Int)} (h : RowsIn w a vs ls) : ∀ ad, a = some ad → ∀ j u, vs[j]? = some u → w.cell? (ad.add j) = some u := by
  intro ad ha j u hu
  have hj : j < ls.length := by
    rw [← h.len]
    exact (List.getElem?_eq_some_iff.1 hu).1
  obtain ⟨x, A, C, hx, _, hc, hv, _⟩ := h.cell j hj
  rw [ha] at hx
  cases hx
  rw [hv] at hu
  rw [hc, ← hu]
theorem RowsIn.one {w : World} {a : Option Addr} {vs : List Value} {ls : List (List Int)} (h : RowsIn w a vs ls) : ∀ u ∈ vs, u.oneCell' = true := by
  intro u hu
  obtain ⟨j, hj⟩ := List.mem_iff_getElem?.1 hu
  have hjl : j < ls.length := by
    rw [← h.len]
    exact (List.getElem?_eq_some_iff.1 hj).1
  obtain ⟨x, A, C, _, _, _, hv, _⟩ := h.cell j hjl
  rw [hv] at hj
  cases hj
  rfl

theorem own_slices {w : World} {B n : Nat} {v : Value} {vs : List Value} {ls : List (List Int)} (h : w.ownsRow B 33 1 v n vs) (hn : n = ls.length) (hv : ∀ i, i < ls.length → ∃ A C, vs[i]? = some (.slice A (ls.getD i []).length C) ∧ Reads w A (ls.getD i [])) :
    ∃ a c, v = .slice a n c ∧ SlicesAt w a ls := by
  subst hn
  rcases h.2 with ⟨rfl, h0⟩ | ⟨g, cap, cur, rfl, hB, hg, hc, _⟩
  · have hl : ls.length = 0 := h0
    exact ⟨none, 0, by rw [hl], ⟨fun i hi => by omega⟩⟩
  · refine ⟨_, cap, rfl, ⟨fun i hi => ?_⟩⟩
    obtain ⟨A, C, hvi, hr⟩ := hv i hi
    have k := h.cellAt i (by omega)
    rw [hvi] at k
    exact ⟨_, A, C, rfl, by rw [show ((⟨g, 0, none⟩ : Addr).add i) = ⟨g, i, none⟩ by unfold Addr.add; split <;> simp_all]; exact k, lt_of_block hg, hr⟩

/-- a row of bytes, as an append's source -/
theorem row_src {w : World} {B : Nat} {zs : List Int} {v : Value} (h : Row w B zs v) (hr : ∀ x ∈ zs, 0 ≤ x ∧ x ≤ 255) (hl : zs.length ≤ 9223372036854775807) :
    ∃ a c, v = .slice a zs.length c ∧ HereA w a zs ∧ (a = none → zs.length = 0 ∧ c = 0) ∧ zs.length ≤ c ∧ c ≤ 9223372036854775807 ∧ ∀ g, a = some ⟨g, 0, none⟩ → B ≤ g := by
  rcases h.2 with ⟨rfl, hn⟩ | ⟨g, cap, cur, rfl, _⟩
  · have : zs = [] := by
      have h1 := h.1
      rw [hn] at h1
      exact List.eq_nil_of_length_eq_zero (by simpa using h1)
    subst this
    exact ⟨none, 0, rfl, .inl ⟨rfl, rfl⟩, fun _ => ⟨rfl, rfl⟩, Nat.le_refl _, by omega, fun g e => by cases e⟩
  · have hh := h.here hr hl
    exact ⟨_, cap, rfl, .inr ⟨g, rfl, hh.1⟩, fun e => (by cases e), hh.2.2.1, hh.2.2.2, fun g' e => by cases e; exact hh.2.1⟩

theorem HereA.below {w w' : World} {a : Option Addr} {zs : List Int} (h : HereA w a zs) (hb : Below w.heap.size w w') : HereA w' a zs := by
  rcases h with ⟨rfl, rfl⟩ | ⟨g, rfl, h⟩
  · exact .inl ⟨rfl, rfl⟩
  · exact .inr ⟨g, rfl, h.below hb⟩
theorem reads_news {w : World} {a : Option Addr} {zs : List Int} (h : Reads w a zs) : ∀ ad, a = some ad → ∀ j u, (zs.map (Value.int .u8))[j]? = some u → w.cell? (ad.add j) = some u := by
  intro ad ha
  subst ha
  exact h.news

namespace Frame
theorem flat_le (ls : List (List Int)) (hl : ∀ z ∈ ls, z.length ≤ 100) : (flat ls).length ≤ 106 * ls.length := by
  induction ls with
  | nil => simp [flat]
  | cons z ls ih =>
    have h1 := ih (fun y hy => hl y (by simp [hy]))
    have h2 := frame_short_len z (hl z (by simp))
    have h3 := hl z (by simp)
    have e : flat (z :: ls) = frameOf z ++ flat ls := by simp [flat]
    rw [e, List.length_append, List.length_cons]
    omega
end Frame

end Go.Proofs.Ytjpbniajhkindaa
