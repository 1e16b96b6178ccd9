/- PutText, the program's and the reference's, by their contracts. Numbers and texts as bytes: plain mathematics. An expression held against none at all. -/
import Derived.Test.YtoghalmjbbkjhaaGreatDoorMah
import Derived.Lib.ConvBytes
import Derived.Test.YtoghalmjbbkjhaaGreatDoorMag
import Derived.Test.YtoghalmjbbkjhaaGreatDoorNamed
import Derived.ChangeKeysEq
namespace Go.Proofs.YtoghalmjbbkjhaaGreatDoor.Pk
open Go.RowKit

/-- a text's bytes, as numbers -/
def bl (s : ByteArray) : List Int := s.data.toList.map fun b => (b.toNat : Int)
theorem bl_len (s : ByteArray) : (bl s).length = s.size := by simp [bl]

theorem below_bytes (w : World) (e : TypeId) (s : ByteArray) : Below w.heap.size w (Lib.bytesWorld w e s) :=
  ⟨rfl, rfl, rfl, by rw [Lib.bytesWorld_size]; omega, fun k hk => Lib.bytesWorld_at_old w e s k hk⟩

theorem bytes_reads (w : World) (e : TypeId) (s : ByteArray) : ∀ j u, ((bl s).map (Value.int .u8))[j]? = some u → (Lib.bytesWorld w e s).cell? ((⟨w.heap.size, 0, none⟩ : Addr).add j) = some u := by
  intro j u hu
  have hj : j < s.size := by
    have := (List.getElem?_eq_some_iff.1 hu).1
    simpa [bl] using this
  have ha : (⟨w.heap.size, 0, none⟩ : Addr).add j = ⟨w.heap.size, j, none⟩ := by unfold Addr.add; split <;> simp_all
  rw [ha, Lib.bytesWorld_cell w e s j hj, ← hu]
  simp [bl, List.getD, hj]

/-- two rows that lie in one block: the parts of a Join of two -/
theorem parts_two (W : World) (g : Nat) (T : TypeId) (a0 a1 : Option Addr) (l0 l1 : List Int) (c0 c1 : Nat)
    (hg : W.heap[g]? = some (.cells #[.slice a0 l0.length c0, .slice a1 l1.length c1] T (0, 0)))
    (n0 : a0 = none → l0.length = 0 ∧ c0 = 0) (n1 : a1 = none → l1.length = 0 ∧ c1 = 0)
    (r0 : ∀ ad, a0 = some ad → ∀ j u, (l0.map (Value.int .u8))[j]? = some u → W.cell? (ad.add j) = some u)
    (r1 : ∀ ad, a1 = some ad → ∀ j u, (l1.map (Value.int .u8))[j]? = some u → W.cell? (ad.add j) = some u) :
    Parts W g 2 (fun k => if k = 0 then a0 else a1) (fun k => if k = 0 then l0 else l1) (fun k => if k = 0 then c0 else c1) := by
  refine ⟨fun k hk => ?_, fun k hk h => ?_, fun k hk ad h => ?_⟩
  · rw [cell_of_row W g k _ T (0, 0) hg]
    rcases (show k = 0 ∨ k = 1 by omega) with rfl | rfl <;> simp
  · rcases (show k = 0 ∨ k = 1 by omega) with rfl | rfl
    · exact n0 h
    · exact n1 h
  · rcases (show k = 0 ∨ k = 1 by omega) with rfl | rfl
    · exact r0 ad h
    · exact r1 ad h

set_option maxRecDepth 100000 in
set_option maxHeartbeats 1000000 in
theorem putText_any (s : ByteArray) (hs : s.size ≤ 4096) (w : World) :
    Calls Tryz.prog 26 #[.string s] w fun e w' => ∃ v, e = .returned (.tuple #[v, .int .i64 0]) ∧ Row w' w.heap.size (Num.put s.size ++ bl s) v ∧ Below w.heap.size w w' := by
  have hcv := fun W : World => Lib.run_convert_string_bytes (P := Tryz.prog) W 9 32 5 s Tryz.underlying9 Tryz.underlying32 Tryz.underlying5
  go_enter Tryz.func26, Tryz.ntmps26
  go_wp2_with fail
  refine (put_any s.size (by omega) w).mono ?_
  rintro e w1 ⟨v, rfl, hr, hb⟩
  have hlen := Num.put_len s.size
  obtain ⟨g, cap, rfl, hg0, hg1, _, _, _⟩ := hr.is (Num.enc_ne _ _)
  go_wp2_with fail
  have hb1 := below_bytes w1 5 s
  have hz1 := Lib.bytesWorld_size w1 5 s
  have hb2 : Below w1.heap.size w1 ((Lib.bytesWorld w1 5 s).alloc (.cells #[.slice (some ⟨g, 0, none⟩) (Num.put s.size).length cap, .slice (some ⟨w1.heap.size, 0, none⟩) s.size (grownCap w1 s.size 0 5)] 32)) :=
    hb1.alloc (by omega) _
  have hP := parts_two ((Lib.bytesWorld w1 5 s).alloc (.cells #[.slice (some ⟨g, 0, none⟩) (Num.put s.size).length cap, .slice (some ⟨w1.heap.size, 0, none⟩) s.size (grownCap w1 s.size 0 5)] 32))
    (Lib.bytesWorld w1 5 s).heap.size 32 (some ⟨g, 0, none⟩) (some ⟨w1.heap.size, 0, none⟩) (Num.put s.size) (bl s) cap (grownCap w1 s.size 0 5)
    (by rw [bl_len]; exact heap_alloc_new _ _) (fun h => by cases h) (fun h => by cases h)
    (fun ad h => by cases h; exact hr.news hb2 rfl)
    (fun ad h j u hu => by cases h; exact (World.cell?_alloc_lt _ _ _ (by rw [block_of_add, hz1]; exact Nat.lt_succ_self _)).trans (bytes_reads w1 5 s j u hu))
  have hbig : (cat (fun k => if k = 0 then Num.put s.size else bl s) 2).length ≤ 1000000 := by
    simp only [cat, List.nil_append, List.length_append]
    have := bl_len s
    simp; omega
  refine (join_any _ 2 2 _ _ _ _ hP (by omega) hbig).mono ?_
  rintro e w2 ⟨g2, c2, rfl, hr2, hb3⟩
  have hcat : cat (fun k => if k = 0 then Num.put s.size else bl s) 2 = Num.put s.size ++ bl s := by simp [cat]
  rw [hcat] at hr2
  have hsz : ((Lib.bytesWorld w1 5 s).alloc (.cells #[.slice (some ⟨g, 0, none⟩) (Num.put s.size).length cap, .slice (some ⟨w1.heap.size, 0, none⟩) s.size (grownCap w1 s.size 0 5)] 32)).heap.size = w1.heap.size + 2 := by simp [hz1]
  have hbz := hb.size
  have HB := Lib.hid ((hb.trans (hb2.mono hbz)).trans (hb3.mono (by omega)))
  have HR := Lib.hid (hr2.less (B' := w.heap.size) (by omega))
  have HC := Lib.hid hcat
  clear hcat hr2 hb3 hP hbig hb2 hb1 hz1 hsz hb hr hcv
  go_wp2
  go_ret2
  rw [HC.out] at *
  exact ⟨_, rfl, HR.out, HB.out⟩

theorem putText_long (s : ByteArray) (hs : 4096 < s.size) (hm : s.size ≤ 9223372036854775807) (w : World) :
    Calls Tryz.prog 26 #[.string s] w fun e w' => e = .returned (.tuple #[.slice none 0 0, .int .i64 3]) ∧ w' = w := by
  go_enter Tryz.func26, Tryz.ntmps26
  go_wp2_with fail
  go_ret2
  exact ⟨rfl, rfl⟩

end Go.Proofs.YtoghalmjbbkjhaaGreatDoor.Pk

namespace Go.Proofs.YtoghalmjbbkjhaaGreatDoor.Job
open Go.RowKit

/-- the bytes of numbers, one behind the other -/
def putAll : List Int → List Int
  | [] => []
  | n :: r => Num.put n.toNat ++ putAll r
theorem putAll_append (a b : List Int) : putAll (a ++ b) = putAll a ++ putAll b := by
  induction a with
  | nil => rfl
  | cons x a ih => simp only [List.cons_append, putAll, ih, List.append_assoc]
theorem putAll_len : ∀ l : List Int, (putAll l).length ≤ 10 * l.length
  | [] => by simp [putAll]
  | n :: r => by
    have h1 := putAll_len r
    have h2 := (Num.put_len n.toNat).2
    simp only [putAll, List.length_append, List.length_cons]
    omega
/-- a text's bytes -/
def txt (s : ByteArray) : List Int := Num.put s.size ++ Pk.bl s
theorem txt_len (s : ByteArray) : (txt s).length ≤ 10 + s.size := by
  have := (Num.put_len s.size).2
  simp only [txt, List.length_append, Pk.bl_len]
  omega
end Go.Proofs.YtoghalmjbbkjhaaGreatDoor.Job

namespace Go.Proofs.YtoghalmjbbkjhaaGreatDoor
open Go.RowKit

theorem infoF : ∃ i, Tryz.prog.info? 41 = some i := by
  have h : (Tryz.prog.info? 41).isSome = true := by kernel_rfl
  exact Option.isSome_iff_exists.1 h
theorem cellsF : Tryz.prog.cellsOf 41 = 2 := by kernel_rfl
theorem eq_other (b : Nat → Nat) (s : Nat → Bool) (h : b 0 ≠ 0) (W : World) : (Op.equalIn 10000 43 (.agg (xcells b s)) (.agg zeroX)).run Tryz.prog W = .ok false W := by
  obtain ⟨i, hi⟩ := infoF
  rw [show (10000 : Nat) = 9999 + 1 from rfl, run_equalIn_array W 9999 _ _ Tryz.underlying43 hi, cellsF]
  have g0 : (((b 0 : Nat) : Int) == 0) = false := by simp; exact h
  rw [show List.range 5 = [0, 1, 2, 3, 4] from rfl]
  unfold xcells
  simp [Op.eqItems, go_sem, g0]
theorem eq_none (W : World) : (Op.equalIn 10000 43 (.agg zeroX) (.agg zeroX)).run Tryz.prog W = .ok true W := by
  obtain ⟨i, hi⟩ := infoF
  rw [show (10000 : Nat) = 9999 + 1 from rfl, run_equalIn_array W 9999 _ _ Tryz.underlying43 hi, cellsF]
  rw [show List.range 5 = [0, 1, 2, 3, 4] from rfl]
  simp [Op.eqItems, go_sem]
end Go.Proofs.YtoghalmjbbkjhaaGreatDoor
