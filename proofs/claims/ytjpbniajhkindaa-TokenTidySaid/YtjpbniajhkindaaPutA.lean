/- pack.Put, by its contract: the bytes of a number, in a row of the call's own. pack.Join, by its contract: n parts, whatever they are (nil, empty, or rows of bytes), one behind the other, in a row of the call's own. PutText, the program's and the reference's, by their contracts. -/
import Derived.Test.YtjpbniajhkindaaRow
import Derived.Lib.ConvBytes
namespace Go.Proofs.Ytjpbniajhkindaa
open Go.RowKit

set_option maxRecDepth 100000 in
set_option maxHeartbeats 400000 in
theorem put_any (n : Nat) (hn : n < 18446744073709551616) (w : World) :
    Calls Try.prog 35 #[.int .u64 (n : Int)] w fun e w' => ∃ v, e = .returned v ∧ Row w' w.heap.size (Num.put n) v ∧ Below w.heap.size w w' := by
  obtain ⟨i0, hi, hz0, hz1, hz2⟩ := info_parts info5
  go_enter Try.func35, Try.ntmps35
  go_wp2
  go_loopw [0, 3] (fun x v wr => ∃ (k : Nat) (pre : List Int), k ≤ 9 ∧ x = .int .u64 ((n / 128 ^ k : Nat) : Int) ∧ pre.length = k ∧ Num.put n = pre ++ Num.enc (9 - k) (n / 128 ^ k) ∧
      wr.ownsRow w.heap.size 5 1 v pre.length (pre.map (Value.int .u8)) ∧ Below w.heap.size w wr)
    (fun x _ _ => (intOf x).toNat)
  case atStart => exact ⟨0, [], by omega, by simp, rfl, by simp [Num.put], World.ownsRow_nil _ _ _ _, Below.refl _ _⟩
  case round =>
    obtain ⟨k, pre, hk, rfl, hpl, hput, hown, hbel⟩ := hrel
    have HP := Lib.hid hput
    have HL := Lib.hid hpl
    clear hput hpl
    have hlt : n / 128 ^ k < 18446744073709551616 := Nat.lt_of_le_of_lt (Nat.div_le_self _ _) hn
    obtain ⟨q, hq⟩ : ∃ q, q = n / 128 ^ k := ⟨_, rfl⟩
    rw [← hq] at hlt
    rw [← hq]
    have HQ := Lib.hid hq
    clear hq
    have HN := Lib.hid hn
    clear hn
    have HT := Lib.hid hlt
    clear hlt
    by_cases hb : q < 128
    · go_wp2_with (at_builtin; refine wpList_append_own _ rfl _ _ 33 rfl w.heap.size 5 i0 (.int .u8 0) 1 1 Try.underlying33 hi hz0 hz1 hz2 rfl (by decide) _ _ _ rfl (hown.alloc _) ⟨wr.heap.size, 0, none⟩ 1 1 [.int .u8 (q : Int)] rfl rfl (one_new _ _ _) (ints_oneCell .u8 [(q : Int)]) (by have := HL.out; unfold maxLen; omega) (by have := HL.out; omega) (by have := hbel.size; simp; omega) ?_)
      intro v' w1 hown1 hg1 _
      go_wp2
      go_ret
      have hq : Num.put n = pre ++ [(q : Int)] := by rw [HP.out, ← HQ.out, Num.enc_small _ _ hb]
      refine ⟨_, rfl, ?_, ?_⟩
      · rw [hq]; simpa [Row] using hown1
      · exact (hbel.alloc hbel.size _).grown hg1 (by have := hbel.size; simp; omega) (fun k hk => (hown.lt k hk).1)
    · have ha := Num.and127 q (by have := HT.out; omega)
      have ho := Num.or128 q
      go_wp2_with (at_builtin; refine wpList_append_own _ rfl _ _ 33 rfl w.heap.size 5 i0 (.int .u8 0) 1 1 Try.underlying33 hi hz0 hz1 hz2 rfl (by decide) _ _ _ rfl (hown.alloc _) ⟨wr.heap.size, 0, none⟩ 1 1 [.int .u8 ((q : Int) % 128 + 128)] rfl rfl (one_new _ _ _) (ints_oneCell .u8 [(q : Int) % 128 + 128]) (by have := HL.out; unfold maxLen; omega) (by have := HL.out; omega) (by have := hbel.size; simp; omega) ?_)
      intro v' w1 hown1 hg1 _
      have hbel1 := (hbel.alloc hbel.size (.cells #[.int .u8 ((q : Int) % 128 + 128)] 5)).grown hg1 (by have := hbel.size; simp; omega) (fun k hk => (hown.lt k hk).1)
      have h9 : k < 9 := by
        rcases Nat.lt_or_ge k 9 with h | h
        · exact h
        · exact absurd (Num.top_small n k h (HN.out)) (by rw [← HQ.out]; exact hb)
      clear ha ho hown hg1 hbel
      go_wp2
      go_roundw
      case rel =>
        refine ⟨k + 1, pre ++ [(q : Int) % 128 + 128], by omega, ?_, by rw [List.length_append, HL.out]; rfl, ?_, by simpa using hown1, hbel1⟩
        · rw [Nat.pow_succ, ← Nat.div_div_eq_div_mul, ← HQ.out]; first | rfl | go_num
        · rw [HP.out, ← HQ.out, Nat.pow_succ, ← Nat.div_div_eq_div_mul, ← HQ.out, show 9 - k = (9 - (k + 1)) + 1 by omega, Num.enc_big _ _ hb]
          simp
      case measure => simp [intOf]; omega

end Go.Proofs.Ytjpbniajhkindaa

namespace Go.Proofs.Ytjpbniajhkindaa
open Go.RowKit

/-- the first k lists, one behind the other -/
def cat (L : Nat → List Int) : Nat → List Int
  | 0 => []
  | k + 1 => cat L k ++ L k

theorem cat_le (L : Nat → List Int) {k n : Nat} (h : k ≤ n) : (cat L k).length ≤ (cat L n).length := by
  induction n with
  | zero => have : k = 0 := by omega
            subst this; exact Nat.le_refl _
  | succ n ih =>
    rcases Nat.lt_or_ge k (n + 1) with h' | h'
    · have := ih (by omega); simp only [cat, List.length_append]; omega
    · have : k = n + 1 := by omega
      subst this; exact Nat.le_refl _

/-- n parts lie in the block g from its head on; each one's bytes are L k -/
structure Parts (w : World) (g n : Nat) (A : Nat → Option Addr) (L : Nat → List Int) (C : Nat → Nat) : Prop where
  cell : ∀ k, k < n → w.cell? ⟨g, k, none⟩ = some (.slice (A k) (L k).length (C k))
  nil : ∀ k, k < n → A k = none → (L k).length = 0 ∧ C k = 0
  reads : ∀ k, k < n → ∀ ad, A k = some ad → ∀ j u, ((L k).map (Value.int .u8))[j]? = some u → w.cell? (ad.add j) = some u

theorem block_of_add (a : Addr) (n : Nat) : (a.add n).block = a.block := by unfold Addr.add; split <;> rfl

theorem Parts.below {w w' : World} {g n : Nat} {A : Nat → Option Addr} {L : Nat → List Int} {C : Nat → Nat} (h : Parts w g n A L C) (hb : Below w.heap.size w w') : Parts w' g n A L C :=
  ⟨fun k hk => (hb.cell (World.block_lt_of_cell? w _ (h.cell k hk))).trans (h.cell k hk), h.nil,
   fun k hk ad ha j u hu => (hb.cell (World.block_lt_of_cell? w _ (h.reads k hk ad ha j u hu))).trans (h.reads k hk ad ha j u hu)⟩

set_option maxRecDepth 100000 in
set_option maxHeartbeats 1000000 in
theorem join_any (g n c : Nat) (A : Nat → Option Addr) (L : Nat → List Int) (C : Nat → Nat) (w : World) (hp : Parts w g n A L C) (hn : n ≤ 1000000) (hlen : (cat L n).length ≤ 1000000) :
    Calls Try.prog 34 #[.slice (some ⟨g, 0, none⟩) n c] w fun e w' => ∃ g' c', e = .returned (.slice (some ⟨g', 0, none⟩) (cat L n).length c') ∧ Row w' w.heap.size (cat L n) (.slice (some ⟨g', 0, none⟩) (cat L n).length c') ∧ Below w.heap.size w w' := by
  obtain ⟨i0, hi, hz0, hz1, hz2⟩ := info_parts info5
  have HP := Lib.hid hp
  clear hp
  go_enter Try.func34, Try.ntmps34
  go_wp2
  go_loop [3, 11] (fun a i => ∃ k : Nat, k ≤ n ∧ i = .int .i64 k ∧ a = .int .i64 ((cat L k).length : Nat)) (fun _ i => n - (intOf i).toNat)
  case atStart => exact ⟨0, Nat.zero_le _, rfl, rfl⟩
  case round =>
    obtain ⟨k, hk, rfl, rfl⟩ := hrel
    have hl1 := cat_le L hk
    by_cases hlt : k < n
    · have hcell := HP.out.cell k hlt
      have hl2 := cat_le L (show k + 1 ≤ n by omega)
      have e : (cat L (k + 1)).length = (cat L k).length + (L k).length := by simp [cat]
      have HE := Lib.hid e
      rw [e] at hl2
      clear e
      go_wp2
      go_round
      case rel => exact ⟨k + 1, by omega, by go_num, by rw [HE.out]; go_num⟩
      case measure => simp [intOf]; omega
    · obtain rfl : k = n := by omega
      go_wp2_with (at_make; go_loud (refine wpList_make_own _ rfl _ _ 33 rfl w.heap.size 5 i0 (.int .u8 0) 1 Try.underlying33 hi hz0 hz1 _ _ _ (cat L k).length rfl rfl (by omega) (by rw [hz2]; omega) (by unfold maxLen; omega) (Nat.le_refl _) ?_))
      intro w1 hown1 hg1
      have hb1 : Below w.heap.size w w1 := (Below.refl _ _).grown hg1 (Nat.le_refl _) (fun k hk => by cases hk)
      clear hg1
      go_wp2
      go_loopw [6, 24] (fun v i wr => ∃ m : Nat, m ≤ k ∧ i = .int .i64 m ∧ v = .slice (some ⟨w.heap.size, 0, none⟩) (cat L m).length (cat L k).length ∧
          wr.ownsRow w.heap.size 5 1 (.slice (some ⟨w.heap.size, 0, none⟩) (cat L m).length (cat L k).length) (cat L m).length ((cat L m).map (Value.int .u8)) ∧ Below w.heap.size w wr)
        (fun _ i _ => k - (intOf i).toNat)
      case atStart => exact ⟨0, Nat.zero_le _, rfl, rfl, hown1, hb1⟩
      case round =>
        obtain ⟨m, hm, rfl, rfl, hown, hbel⟩ := hrel
        clear hown1 hb1
        have hl1 := cat_le L hm
        by_cases hlt : m < k
        · have hcell := (HP.out.below hbel).cell m hlt
          have hl2 := cat_le L (show m + 1 ≤ k by omega)
          have e : (cat L (m + 1)).length = (cat L m).length + (L m).length := by simp [cat]
          have HE := Lib.hid e
          rw [e] at hl2
          clear e
          go_wp2_with (at_builtin; go_loud (refine wpList_append_fits_any _ rfl _ _ 33 rfl w.heap.size 5 i0 1 Try.underlying33 hi hz1 w.heap.size (cat L m).length (cat L k).length _ rfl hown (A m) (L m).length (C m) ((L m).map (Value.int .u8)) rfl (by simp) (fun h => HP.out.nil m hlt h) ((HP.out.below hbel).reads m hlt) (ints_oneCell .u8 (L m)) (by omega) ?_))
          intro w2 hown2 hg2
          have hb2 : Below w.heap.size w w2 := hbel.grown hg2 hbel.size (fun k hk => by cases hk; exact Nat.le_refl _)
          clear hg2 hown hbel hcell
          go_wp2
          go_roundw
          case rel =>
            refine ⟨m + 1, by omega, by go_num, by rw [HE.out], ?_, hb2⟩
            rw [HE.out]
            simpa [cat] using hown2
          case measure => simp [intOf]; omega
        · obtain rfl : m = k := by omega
          go_wp2
          go_ret
          exact ⟨_, _, rfl, hown, hbel⟩

end Go.Proofs.Ytjpbniajhkindaa

namespace Go.Proofs.Ytjpbniajhkindaa
open Go.RowKit

/-- a text's bytes, as numbers -/
def bl (s : ByteArray) : List Int := s.data.toList.map fun b => (b.toNat : Int)
theorem bl_len (s : ByteArray) : (bl s).length = s.size := by simp [bl]

theorem below_bytes (w : World) (e : TypeId) (s : ByteArray) : Below w.heap.size w (Lib.bytesWorld w e s) :=
  ⟨rfl, rfl, rfl, by rw [Lib.bytesWorld_size]; omega, fun k hk => Lib.bytesWorld_at_old w e s k hk⟩

theorem bytes_reads (w : World) (e : TypeId) (s : ByteArray) : ∀ j u, ((bl s).map (Value.int .u8))[j]? = some u → (Lib.bytesWorld w e s).cell? ((⟨w.heap.size, 0, none⟩ : Addr).add j) = some u := by
  intro j u hu
  have hj : j < s.size := by
    have := (List.getElem?_eq_some_iff.1 hu).1
    simpa [bl] using this
  have ha : (⟨w.heap.size, 0, none⟩ : Addr).add j = ⟨w.heap.size, j, none⟩ := by unfold Addr.add; split <;> simp_all
  rw [ha, Lib.bytesWorld_cell w e s j hj, ← hu]
  simp [bl, List.getD, hj]

/-- two rows that lie in one block: the parts of a Join of two -/
theorem parts_two (W : World) (g : Nat) (T : TypeId) (a0 a1 : Option Addr) (l0 l1 : List Int) (c0 c1 : Nat)
    (hg : W.heap[g]? = some (.cells #[.slice a0 l0.length c0, .slice a1 l1.length c1] T (0, 0)))
    (n0 : a0 = none → l0.length = 0 ∧ c0 = 0) (n1 : a1 = none → l1.length = 0 ∧ c1 = 0)
    (r0 : ∀ ad, a0 = some ad → ∀ j u, (l0.map (Value.int .u8))[j]? = some u → W.cell? (ad.add j) = some u)
    (r1 : ∀ ad, a1 = some ad → ∀ j u, (l1.map (Value.int .u8))[j]? = some u → W.cell? (ad.add j) = some u) :
    Parts W g 2 (fun k => if k = 0 then a0 else a1) (fun k => if k = 0 then l0 else l1) (fun k => if k = 0 then c0 else c1) := by
  refine ⟨fun k hk => ?_, fun k hk h => ?_, fun k hk ad h => ?_⟩
  · rw [cell_of_row W g k _ T (0, 0) hg]
    rcases (show k = 0 ∨ k = 1 by omega) with rfl | rfl <;> simp
  · rcases (show k = 0 ∨ k = 1 by omega) with rfl | rfl
    · exact n0 h
    · exact n1 h
  · rcases (show k = 0 ∨ k = 1 by omega) with rfl | rfl
    · exact r0 ad h
    · exact r1 ad h

set_option maxRecDepth 100000 in
set_option maxHeartbeats 1000000 in
theorem putText_any (s : ByteArray) (hs : s.size ≤ 4096) (w : World) :
    Calls Try.prog 48 #[.string s] w fun e w' => ∃ v, e = .returned (.tuple #[v, .int .i64 0]) ∧ Row w' w.heap.size (Num.put s.size ++ bl s) v ∧ Below w.heap.size w w' := by
  have hcv := fun W : World => Lib.run_convert_string_bytes (P := Try.prog) W 9 33 5 s Try.underlying9 Try.underlying33 Try.underlying5
  go_enter Try.func48, Try.ntmps48
  go_wp2_with fail
  refine (put_any s.size (by omega) w).mono ?_
  rintro e w1 ⟨v, rfl, hr, hb⟩
  have hlen := Num.put_len s.size
  obtain ⟨g, cap, rfl, hg0, hg1, _, _, _⟩ := hr.is (Num.enc_ne _ _)
  go_wp2_with fail
  have hb1 := below_bytes w1 5 s
  have hz1 := Lib.bytesWorld_size w1 5 s
  have hb2 : Below w1.heap.size w1 ((Lib.bytesWorld w1 5 s).alloc (.cells #[.slice (some ⟨g, 0, none⟩) (Num.put s.size).length cap, .slice (some ⟨w1.heap.size, 0, none⟩) s.size (grownCap w1 s.size 0 5)] 33)) :=
    hb1.alloc (by omega) _
  have hP := parts_two ((Lib.bytesWorld w1 5 s).alloc (.cells #[.slice (some ⟨g, 0, none⟩) (Num.put s.size).length cap, .slice (some ⟨w1.heap.size, 0, none⟩) s.size (grownCap w1 s.size 0 5)] 33))
    (Lib.bytesWorld w1 5 s).heap.size 33 (some ⟨g, 0, none⟩) (some ⟨w1.heap.size, 0, none⟩) (Num.put s.size) (bl s) cap (grownCap w1 s.size 0 5)
    (by rw [bl_len]; exact heap_alloc_new _ _) (fun h => by cases h) (fun h => by cases h)
    (fun ad h => by cases h; exact hr.news hb2 rfl)
    (fun ad h j u hu => by cases h; exact (World.cell?_alloc_lt _ _ _ (by rw [block_of_add, hz1]; exact Nat.lt_succ_self _)).trans (bytes_reads w1 5 s j u hu))
  have hbig : (cat (fun k => if k = 0 then Num.put s.size else bl s) 2).length ≤ 1000000 := by
    simp only [cat, List.nil_append, List.length_append]
    have := bl_len s
    simp; omega
  refine (join_any _ 2 2 _ _ _ _ hP (by omega) hbig).mono ?_
  rintro e w2 ⟨g2, c2, rfl, hr2, hb3⟩
  have hcat : cat (fun k => if k = 0 then Num.put s.size else bl s) 2 = Num.put s.size ++ bl s := by simp [cat]
  rw [hcat] at hr2
  have hsz : ((Lib.bytesWorld w1 5 s).alloc (.cells #[.slice (some ⟨g, 0, none⟩) (Num.put s.size).length cap, .slice (some ⟨w1.heap.size, 0, none⟩) s.size (grownCap w1 s.size 0 5)] 33)).heap.size = w1.heap.size + 2 := by simp [hz1]
  have hbz := hb.size
  have HB := Lib.hid ((hb.trans (hb2.mono hbz)).trans (hb3.mono (by omega)))
  have HR := Lib.hid (hr2.less (B' := w.heap.size) (by omega))
  have HC := Lib.hid hcat
  clear hcat hr2 hb3 hP hbig hb2 hb1 hz1 hsz hb hr hcv
  go_wp2
  go_ret2
  rw [HC.out] at *
  exact ⟨_, rfl, HR.out, HB.out⟩

theorem putText_long (s : ByteArray) (hs : 4096 < s.size) (hm : s.size ≤ 9223372036854775807) (w : World) :
    Calls Try.prog 48 #[.string s] w fun e w' => e = .returned (.tuple #[.slice none 0 0, .int .i64 3]) ∧ w' = w := by
  go_enter Try.func48, Try.ntmps48
  go_wp2_with fail
  go_ret2
  exact ⟨rfl, rfl⟩

end Go.Proofs.Ytjpbniajhkindaa
