/- The law PackBack, outside its walk: the bytes that are joined, and what is taken of them, whole or cut. -/
import Derived.Test.YtdhfflfjbkpmoaaKnown
namespace Go.Proofs.Ytdhfflfjbkpmoaa
open Go.RowKit

/-- five parts -/
def L5 (z0 z1 z2 z3 z4 : List Int) : Nat → List Int
  | 0 => z0 | 1 => z1 | 2 => z2 | 3 => z3 | _ => z4
def A5 (a0 a1 a2 a3 a4 : Option Addr) : Nat → Option Addr
  | 0 => a0 | 1 => a1 | 2 => a2 | 3 => a3 | _ => a4
def C5 (c0 c1 c2 c3 c4 : Nat) : Nat → Nat
  | 0 => c0 | 1 => c1 | 2 => c2 | 3 => c3 | _ => c4

/-- one part: nil, or bytes that lie in this world -/
def Part (W : World) (a : Option Addr) (z : List Int) (c : Nat) : Prop :=
  (a = none → z.length = 0 ∧ c = 0) ∧ ∀ ad, a = some ad → ∀ j u, (z.map (Value.int .u8))[j]? = some u → W.cell? (ad.add j) = some u

theorem Part.below {w w' : World} {a : Option Addr} {z : List Int} {c : Nat} (h : Part w a z c) (hb : Below w.heap.size w w') : Part w' a z c :=
  ⟨h.1, fun ad ha j u hu => (hb.cell (World.block_lt_of_cell? w _ (h.2 ad ha j u hu))).trans (h.2 ad ha j u hu)⟩

theorem Row.part {w : World} {B g n c : Nat} {z : List Int} (h : Row w B z (.slice (some ⟨g, 0, none⟩) n c)) : Part w (some ⟨g, 0, none⟩) z c :=
  ⟨(fun e => by cases e), (fun ad ha => by cases ha; exact h.news (Below.refl _ _) rfl)⟩

theorem parts_five (W : World) (g : Nat) (T : TypeId) (a0 a1 a2 a3 a4 : Option Addr) (z0 z1 z2 z3 z4 : List Int) (c0 c1 c2 c3 c4 : Nat)
    (hg : W.heap[g]? = some (.cells #[.slice a0 z0.length c0, .slice a1 z1.length c1, .slice a2 z2.length c2, .slice a3 z3.length c3, .slice a4 z4.length c4] T (0, 0)))
    (p0 : Part W a0 z0 c0) (p1 : Part W a1 z1 c1) (p2 : Part W a2 z2 c2) (p3 : Part W a3 z3 c3) (p4 : Part W a4 z4 c4) :
    Parts W g 5 (A5 a0 a1 a2 a3 a4) (L5 z0 z1 z2 z3 z4) (C5 c0 c1 c2 c3 c4) := by
  have five : ∀ k, k < 5 → k = 0 ∨ k = 1 ∨ k = 2 ∨ k = 3 ∨ k = 4 := fun k hk => by omega
  refine ⟨fun k hk => ?_, fun k hk => ?_, fun k hk => ?_⟩
  · rw [cell_of_row W g k _ T (0, 0) hg]
    rcases five k hk with rfl | rfl | rfl | rfl | rfl <;> rfl
  · rcases five k hk with rfl | rfl | rfl | rfl | rfl
    · exact p0.1
    · exact p1.1
    · exact p2.1
    · exact p3.1
    · exact p4.1
  · rcases five k hk with rfl | rfl | rfl | rfl | rfl
    · exact p0.2
    · exact p1.2
    · exact p2.2
    · exact p3.2
    · exact p4.2

/-- all of it, one behind the other -/
def all5 (z0 : List Int) (n : Nat) (m : Int) (s : ByteArray) (z4 : List Int) : List Int :=
  z0 ++ (Num.put n ++ (Num.put (Num.zig m) ++ (Num.put s.size ++ (bl s ++ z4))))

theorem cat_five (z0 : List Int) (n : Nat) (m : Int) (s : ByteArray) (z4 : List Int) :
    cat (L5 z0 (Num.put n) (Num.put (Num.zig m)) (Num.put s.size ++ bl s) z4) 5 = all5 z0 n m s z4 := by
  simp [cat, L5, all5]

theorem all5_len (z0 : List Int) (n : Nat) (m : Int) (s : ByteArray) (z4 : List Int) :
    (all5 z0 n m s z4).length = z0.length + (Num.put n).length + (Num.put (Num.zig m)).length + (Num.put s.size).length + s.size + z4.length := by
  simp [all5, bl_len]; omega

theorem bl_range (s : ByteArray) : ∀ x ∈ bl s, 0 ≤ x ∧ x ≤ 255 := by
  intro x hx
  obtain ⟨b, _, rfl⟩ := List.mem_map.1 hx
  have := b.toNat_lt
  omega

theorem put_range (n : Nat) (hn : n < 18446744073709551616) : ∀ x ∈ Num.put n, 0 ≤ x ∧ x ≤ 255 :=
  Num.enc_range 9 n (Nat.lt_of_lt_of_le hn (by decide))

theorem str_bl (s : ByteArray) : strOfNums (bl s) = s := by
  apply ByteArray.ext
  apply Array.toList_inj.1
  rw [strOfNums_data, bl, List.map_map]
  conv => rhs; rw [← List.map_id s.data.toList]
  apply List.map_congr_left
  intro x _
  simp

theorem all5_range (z0 : List Int) (n : Nat) (m : Int) (s : ByteArray) (z4 : List Int) (hn : n < 18446744073709551616) (h0 : -9223372036854775808 ≤ m) (h1 : m ≤ 9223372036854775807) (hs : s.size ≤ 100)
    (hz0 : ∀ x ∈ z0, 0 ≤ x ∧ x ≤ 255) (hz4 : ∀ x ∈ z4, 0 ≤ x ∧ x ≤ 255) : ∀ x ∈ all5 z0 n m s z4, 0 ≤ x ∧ x ≤ 255 := by
  intro x hx
  simp only [all5, List.mem_append] at hx
  rcases hx with h | h | h | h | h | h
  · exact hz0 x h
  · exact put_range n hn x h
  · exact put_range _ (Num.zig_lt h0 h1) x h
  · exact put_range _ (by omega) x h
  · exact bl_range s x h
  · exact hz4 x h

section
variable (z0 : List Int) (n : Nat) (m : Int) (s : ByteArray) (z4 : List Int)

theorem drop1 : (all5 z0 n m s z4).drop z0.length = Num.put n ++ (Num.put (Num.zig m) ++ (Num.put s.size ++ (bl s ++ z4))) := by
  simp [all5]
theorem drop2 : (all5 z0 n m s z4).drop (z0.length + (Num.put n).length) = Num.put (Num.zig m) ++ (Num.put s.size ++ (bl s ++ z4)) := by
  rw [← List.drop_drop, drop1, List.drop_left]
theorem drop3 : (all5 z0 n m s z4).drop (z0.length + (Num.put n).length + (Num.put (Num.zig m)).length) = Num.put s.size ++ (bl s ++ z4) := by
  rw [← List.drop_drop, drop2, List.drop_left]
theorem drop4 : (all5 z0 n m s z4).drop (z0.length + (Num.put n).length + (Num.put (Num.zig m)).length + (Num.put s.size).length) = bl s ++ z4 := by
  rw [← List.drop_drop, drop3, List.drop_left]
end

/-- a number's bytes, cut: taken whole, or not at all -/
theorem dec_short (l : List Int) (n p q : Nat) (rest : List Int) (hd : l.drop p = Num.put n ++ rest) (hn : n < 18446744073709551616) :
    Num.dec 10 0 0 ((l.take q).drop p) = if q < p + (Num.put n).length then none else some (n, (Num.put n).length) := by
  rw [List.drop_take, hd]
  split
  · rename_i h
    rw [List.take_append_of_le_length (by omega)]
    by_cases h' : q - p < (Num.put n).length
    · exact Num.dec_put_cut n _ h'
    · have := (Num.put_len n).1; omega
  · rename_i h
    have e : (Num.put n ++ rest).take (q - p) = Num.put n ++ rest.take (q - p - (Num.put n).length) := by
      rw [List.take_append, List.take_of_length_le (by omega)]
    rw [e]
    exact Num.dec_put n hn _

end Go.Proofs.Ytdhfflfjbkpmoaa
