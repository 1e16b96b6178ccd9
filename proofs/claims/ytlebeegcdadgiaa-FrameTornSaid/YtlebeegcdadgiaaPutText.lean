/- PutText, the program's and the reference's, by their contracts. -/
import Derived.Test.YtlebeegcdadgiaaPut
import Derived.Test.YtlebeegcdadgiaaJoin
import Derived.Lib.ConvBytes
namespace Go.Proofs.Ytlebeegcdadgiaa
open Go.RowKit

/-- a text's bytes, as numbers -/
def bl (s : ByteArray) : List Int := s.data.toList.map fun b => (b.toNat : Int)
theorem bl_len (s : ByteArray) : (bl s).length = s.size := by simp [bl]

theorem below_bytes (w : World) (e : TypeId) (s : ByteArray) : Below w.heap.size w (Lib.bytesWorld w e s) :=
  ⟨rfl, rfl, rfl, by rw [Lib.bytesWorld_size]; omega, fun k hk => Lib.bytesWorld_at_old w e s k hk⟩

theorem bytes_reads (w : World) (e : TypeId) (s : ByteArray) : ∀ j u, ((bl s).map (Value.int .u8))[j]? = some u → (Lib.bytesWorld w e s).cell? ((⟨w.heap.size, 0, none⟩ : Addr).add j) = some u := by
  intro j u hu
  have hj : j < s.size := by
    have := (List.getElem?_eq_some_iff.1 hu).1
    simpa [bl] using this
  have ha : (⟨w.heap.size, 0, none⟩ : Addr).add j = ⟨w.heap.size, j, none⟩ := by unfold Addr.add; split <;> simp_all
  rw [ha, Lib.bytesWorld_cell w e s j hj, ← hu]
  simp [bl, List.getD, hj]

/-- two rows that lie in one block: the parts of a Join of two -/
theorem parts_two (W : World) (g : Nat) (T : TypeId) (a0 a1 : Option Addr) (l0 l1 : List Int) (c0 c1 : Nat)
    (hg : W.heap[g]? = some (.cells #[.slice a0 l0.length c0, .slice a1 l1.length c1] T (0, 0)))
    (n0 : a0 = none → l0.length = 0 ∧ c0 = 0) (n1 : a1 = none → l1.length = 0 ∧ c1 = 0)
    (r0 : ∀ ad, a0 = some ad → ∀ j u, (l0.map (Value.int .u8))[j]? = some u → W.cell? (ad.add j) = some u)
    (r1 : ∀ ad, a1 = some ad → ∀ j u, (l1.map (Value.int .u8))[j]? = some u → W.cell? (ad.add j) = some u) :
    Parts W g 2 (fun k => if k = 0 then a0 else a1) (fun k => if k = 0 then l0 else l1) (fun k => if k = 0 then c0 else c1) := by
  refine ⟨fun k hk => ?_, fun k hk h => ?_, fun k hk ad h => ?_⟩
  · rw [cell_of_row W g k _ T (0, 0) hg]
    rcases (show k = 0 ∨ k = 1 by omega) with rfl | rfl <;> simp
  · rcases (show k = 0 ∨ k = 1 by omega) with rfl | rfl
    · exact n0 h
    · exact n1 h
  · rcases (show k = 0 ∨ k = 1 by omega) with rfl | rfl
    · exact r0 ad h
    · exact r1 ad h

set_option maxRecDepth 100000 in
set_option maxHeartbeats 1000000 in
theorem putText_any (s : ByteArray) (hs : s.size ≤ 4096) (w : World) :
    Calls Try.prog 15 #[.string s] w fun e w' => ∃ v, e = .returned (.tuple #[v, .int .i64 0]) ∧ Row w' w.heap.size (Num.put s.size ++ bl s) v ∧ Below w.heap.size w w' := by
  have hcv := fun W : World => Lib.run_convert_string_bytes (P := Try.prog) W 9 22 5 s Try.underlying9 Try.underlying22 Try.underlying5
  go_enter Try.func15, Try.ntmps15
  go_wp2_with fail
  refine (put_any s.size (by omega) w).mono ?_
  rintro e w1 ⟨v, rfl, hr, hb⟩
  have hlen := Num.put_len s.size
  obtain ⟨g, cap, rfl, hg0, hg1, _, _, _⟩ := hr.is (Num.enc_ne _ _)
  go_wp2_with fail
  have hb1 := below_bytes w1 5 s
  have hz1 := Lib.bytesWorld_size w1 5 s
  have hb2 : Below w1.heap.size w1 ((Lib.bytesWorld w1 5 s).alloc (.cells #[.slice (some ⟨g, 0, none⟩) (Num.put s.size).length cap, .slice (some ⟨w1.heap.size, 0, none⟩) s.size (grownCap w1 s.size 0 5)] 22)) :=
    hb1.alloc (by omega) _
  have hP := parts_two ((Lib.bytesWorld w1 5 s).alloc (.cells #[.slice (some ⟨g, 0, none⟩) (Num.put s.size).length cap, .slice (some ⟨w1.heap.size, 0, none⟩) s.size (grownCap w1 s.size 0 5)] 22))
    (Lib.bytesWorld w1 5 s).heap.size 22 (some ⟨g, 0, none⟩) (some ⟨w1.heap.size, 0, none⟩) (Num.put s.size) (bl s) cap (grownCap w1 s.size 0 5)
    (by rw [bl_len]; exact heap_alloc_new _ _) (fun h => by cases h) (fun h => by cases h)
    (fun ad h => by cases h; exact hr.news hb2 rfl)
    (fun ad h j u hu => by cases h; exact (World.cell?_alloc_lt _ _ _ (by rw [block_of_add, hz1]; exact Nat.lt_succ_self _)).trans (bytes_reads w1 5 s j u hu))
  have hbig : (cat (fun k => if k = 0 then Num.put s.size else bl s) 2).length ≤ 1000000 := by
    simp only [cat, List.nil_append, List.length_append]
    have := bl_len s
    simp; omega
  refine (join_any _ 2 2 _ _ _ _ hP (by omega) hbig).mono ?_
  rintro e w2 ⟨g2, c2, rfl, hr2, hb3⟩
  have hcat : cat (fun k => if k = 0 then Num.put s.size else bl s) 2 = Num.put s.size ++ bl s := by simp [cat]
  rw [hcat] at hr2
  have hsz : ((Lib.bytesWorld w1 5 s).alloc (.cells #[.slice (some ⟨g, 0, none⟩) (Num.put s.size).length cap, .slice (some ⟨w1.heap.size, 0, none⟩) s.size (grownCap w1 s.size 0 5)] 22)).heap.size = w1.heap.size + 2 := by simp [hz1]
  have hbz := hb.size
  have HB := Lib.hid ((hb.trans (hb2.mono hbz)).trans (hb3.mono (by omega)))
  have HR := Lib.hid (hr2.less (B' := w.heap.size) (by omega))
  have HC := Lib.hid hcat
  clear hcat hr2 hb3 hP hbig hb2 hb1 hz1 hsz hb hr hcv
  go_wp2
  go_ret2
  rw [HC.out] at *
  exact ⟨_, rfl, HR.out, HB.out⟩

theorem putText_long (s : ByteArray) (hs : 4096 < s.size) (hm : s.size ≤ 9223372036854775807) (w : World) :
    Calls Try.prog 15 #[.string s] w fun e w' => e = .returned (.tuple #[.slice none 0 0, .int .i64 3]) ∧ w' = w := by
  go_enter Try.func15, Try.ntmps15
  go_wp2_with fail
  go_ret2
  exact ⟨rfl, rfl⟩

theorem refPutText_long (s : ByteArray) (hs : 4096 < s.size) (hm : s.size ≤ 9223372036854775807) (w : World) :
    Calls Try.prog 19 #[.string s] w fun e w' => e = .returned (.tuple #[.slice none 0 0, .int .i64 3]) ∧ w' = w := by
  go_enter Try.func19, Try.ntmps19
  go_wp2_with fail
  go_ret2
  exact ⟨rfl, rfl⟩

set_option maxRecDepth 100000 in
set_option maxHeartbeats 1000000 in
theorem refPutText_any (s : ByteArray) (hs : s.size ≤ 4096) (w : World) :
    Calls Try.prog 19 #[.string s] w fun e w' => ∃ v, e = .returned (.tuple #[v, .int .i64 0]) ∧ Row w' w.heap.size (Num.put s.size ++ bl s) v ∧ Below w.heap.size w w' := by
  obtain ⟨i0, hi, hz0, hz1, hz2⟩ := info_parts info5
  have hcv := fun W : World => Lib.run_convert_string_bytes (P := Try.prog) W 9 22 5 s Try.underlying9 Try.underlying22 Try.underlying5
  go_enter Try.func19, Try.ntmps19
  go_wp2_with fail
  refine (refPut_any 9 s.size w (by omega) (Nat.lt_of_le_of_lt hs (by decide)) (by omega)).mono ?_
  rintro e w1 ⟨v, rfl, hr, hb⟩
  have hlen := Num.put_len s.size
  have hr' : Row w1 w.heap.size (Num.put s.size) v := hr
  clear hr
  obtain ⟨g, cap, rfl, hg0, hg1, _, _, _⟩ := hr'.is (Num.enc_ne _ _)
  have hb1 := below_bytes w1 5 s
  have hzz := Lib.bytesWorld_size w1 5 s
  have hbl := bl_len s
  have hown := hr'.below hb1
  have HZ := Lib.hid hzz
  have HL := Lib.hid hbl
  have hbz := hb.size
  clear hzz hbl
  go_wp2_with (at_builtin; go_loud (refine wpList_append_own _ rfl _ _ 22 rfl w.heap.size 5 i0 (.int .u8 0) 1 1 Try.underlying22 hi hz0 hz1 hz2 rfl (by decide) _ _ _ rfl hown ⟨w1.heap.size, 0, none⟩ s.size (grownCap w1 s.size 0 5) ((bl s).map (Value.int .u8)) rfl (by rw [List.length_map, HL.out]; omega) (bytes_reads w1 5 s) (ints_oneCell .u8 _) (by unfold maxLen; omega) (by omega) (by rw [HZ.out]; omega) ?_))
  intro v2 w2 hown2 hg2 _
  have HB := Lib.hid ((hb.trans (hb1.mono hbz)).grown hg2 (by rw [HZ.out]; omega) (fun k hk => by cases hk; exact hg0))
  have HR : Hid (Row w2 w.heap.size (Num.put s.size ++ bl s) v2) := by
    show w2.ownsRow _ _ _ _ _ _
    rw [List.length_append, HL.out, List.map_append]
    exact hown2
  clear hown2 hg2 hown hb1 hb hr' hcv
  go_wp2
  go_ret2
  exact ⟨_, rfl, HR.out, HB.out⟩

end Go.Proofs.Ytlebeegcdadgiaa
