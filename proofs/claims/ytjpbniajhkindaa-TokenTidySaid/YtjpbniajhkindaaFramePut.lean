/- frame.Put, by its contract: a record's frame, in a row of the call's own. -/
import Derived.Test.YtjpbniajhkindaaPutA
import Derived.Test.YtjpbniajhkindaaOfA
import Derived.Test.YtjpbniajhkindaaTxA
import Derived.Test.YtjpbniajhkindaaFrames
namespace Go.Proofs.Ytjpbniajhkindaa
open Go.RowKit

theorem bl_str {zs : List Int} (hr : ∀ x ∈ zs, 0 ≤ x ∧ x ≤ 255) : bl (strOfNums zs) = zs := by
  unfold bl
  rw [strOfNums_data, List.map_map]
  conv => rhs; rw [← List.map_id zs]
  refine List.map_congr_left fun x hx => ?_
  have := hr x hx
  simp
  omega

theorem Row.lit4 (w : World) (a b c d : Int) : Row (w.alloc (.cells #[.int .u8 a, .int .u8 b, .int .u8 c, .int .u8 d] 5)) w.heap.size [a, b, c, d] (.slice (some ⟨w.heap.size, 0, none⟩) 4 4) :=
  World.ownsRow_lit w #[.int .u8 a, .int .u8 b, .int .u8 c, .int .u8 d] 4 (Nat.le_refl _) (by unfold maxLen; omega) rfl

set_option maxHeartbeats 400000 in
theorem lowest_any (n : Nat) (hn : n < 4294967296) (w : World) :
    Calls Try.prog 49 #[.int .u32 (n : Int)] w fun e w' => ∃ v, e = .returned v ∧ Row w' w.heap.size (Frame.le4 n) v ∧ Below w.heap.size w w' := by
  go_enter Try.func49, Try.ntmps49
  go_wp2
  go_ret
  refine ⟨_, rfl, ?_, (Below.refl _ _).alloc (Nat.le_refl _) _⟩
  have h := Row.lit4 w ((n : Int) % 256) ((n : Int) / 256 % 256) ((n : Int) / 65536 % 256) ((n : Int) / 16777216)
  have e : [(n : Int) % 256, (n : Int) / 256 % 256, (n : Int) / 65536 % 256, (n : Int) / 16777216] = Frame.le4 n := by
    simp only [Frame.le4, List.cons.injEq, and_true]
    omega
  rw [e] at h
  exact h

/-- three rows that lie in one block: the parts of a Join of three -/
theorem parts_three (W : World) (g : Nat) (T : TypeId) (a0 a1 a2 : Option Addr) (l0 l1 l2 : List Int) (c0 c1 c2 : Nat)
    (hg : W.heap[g]? = some (.cells #[.slice a0 l0.length c0, .slice a1 l1.length c1, .slice a2 l2.length c2] T (0, 0)))
    (n0 : a0 = none → l0.length = 0 ∧ c0 = 0) (n1 : a1 = none → l1.length = 0 ∧ c1 = 0) (n2 : a2 = none → l2.length = 0 ∧ c2 = 0)
    (r0 : ∀ ad, a0 = some ad → ∀ j u, (l0.map (Value.int .u8))[j]? = some u → W.cell? (ad.add j) = some u)
    (r1 : ∀ ad, a1 = some ad → ∀ j u, (l1.map (Value.int .u8))[j]? = some u → W.cell? (ad.add j) = some u)
    (r2 : ∀ ad, a2 = some ad → ∀ j u, (l2.map (Value.int .u8))[j]? = some u → W.cell? (ad.add j) = some u) :
    Parts W g 3 (fun k => if k = 0 then a0 else if k = 1 then a1 else a2) (fun k => if k = 0 then l0 else if k = 1 then l1 else l2) (fun k => if k = 0 then c0 else if k = 1 then c1 else c2) := by
  refine ⟨fun k hk => ?_, fun k hk h => ?_, fun k hk ad h => ?_⟩
  · rw [cell_of_row W g k _ T (0, 0) hg]
    rcases (show k = 0 ∨ k = 1 ∨ k = 2 by omega) with rfl | rfl | rfl <;> simp
  · rcases (show k = 0 ∨ k = 1 ∨ k = 2 by omega) with rfl | rfl | rfl
    · exact n0 h
    · exact n1 h
    · exact n2 h
  · rcases (show k = 0 ∨ k = 1 ∨ k = 2 by omega) with rfl | rfl | rfl
    · exact r0 ad h
    · exact r1 ad h
    · exact r2 ad h

set_option maxRecDepth 100000 in
set_option maxHeartbeats 1000000 in
theorem framePut_any (a : Option Addr) (len cap : Nat) (zs : List Int) (w : World) (hz : len = zs.length) (hp : Reads w a zs) (hl : zs.length ≤ 4096) :
    Calls Try.prog 33 #[.slice a len cap] w fun e w' => ∃ g c, e = .returned (.tuple #[.slice (some ⟨g, 0, none⟩) (Frame.frameOf zs).length c, .int .i64 0]) ∧
      Row w' w.heap.size (Frame.frameOf zs) (.slice (some ⟨g, 0, none⟩) (Frame.frameOf zs).length c) ∧ Below w.heap.size w w' := by
  have hcv := hp.text len cap hz
  have hsz := strOfNums_size zs
  have hbl := bl_str hp.hr
  have hrr := hp.hr
  clear hp hz
  have HS := Lib.hid hsz
  have HB := Lib.hid hbl
  have HRR := Lib.hid hrr
  clear hsz hbl hrr
  have PT := Lib.hid (putText_any (strOfNums zs) (by rw [HS.out]; exact hl) w)
  rw [HS.out, HB.out] at PT
  go_enter Try.func33, Try.ntmps33
  go_wp2_with fail
  refine PT.out.mono ?_
  rintro e w1 ⟨v, rfl, hr, hb⟩
  clear PT
  have htx : Num.put zs.length ++ zs = Frame.txt zs := rfl
  have htl := Frame.txt_len zs
  have hpl := Num.put_len zs.length
  have htr := Frame.txt_range hl HRR.out
  rw [htx] at hr
  obtain ⟨ts, hts⟩ : ∃ ts, ts = Frame.txt zs := ⟨_, rfl⟩
  rw [← hts] at hr htl htr
  have HTX := Lib.hid hts
  clear htx hts
  have hne : ts ≠ [] := by intro h; rw [h] at htl; simp at htl; omega
  obtain ⟨g, cap2, rfl, hg0, hg1, hc1, hc2, _⟩ := hr.is hne
  have hmax : maxLen = 9223372036854775807 := rfl
  have htl2 : ts.length ≤ 4106 := by omega
  clear htl hpl
  go_wp2_with fail
  have hrd : Reads w1 (some ⟨g, 0, none⟩) ts := by
    obtain ⟨x, c, hv, hx, _⟩ := hr.reads htr (by omega)
    cases hv
    exact hx
  have hmk := Crc.mask_lt (Crc.crc ts)
  have hbl : Below w1.heap.size w1 (w1.alloc (.cells #[.int .u8 90] 5)) := (Below.refl _ _).alloc (Nat.le_refl _) _
  refine (masked_any (some ⟨g, 0, none⟩) ts.length cap2 ts _ rfl (hrd.below hbl)).mono ?_
  rintro e w2 ⟨rfl, hb2⟩
  have hb12 := hbl.trans (hb2.mono hbl.size)
  have hlit := (Row.lit1 w1 90).below hb2
  clear hbl hb2
  go_wp2_with fail
  refine (lowest_any _ hmk _).mono ?_
  rintro e w3 ⟨v3, rfl, hr3, hb3⟩
  have hb13 := hb12.trans (hb3.mono hb12.size)
  have hlit3 := hlit.below hb3
  have hr1 := hr.below hb13
  clear hb12 hlit
  have hl4 := Frame.le4_len (Crc.mask (Crc.crc ts))
  have hte : Frame.le4 (Crc.mask (Crc.crc ts)) = Frame.tail ts := rfl
  rw [hte] at hr3 hl4
  generalize Crc.mask (Crc.crc ts) = mk at *
  generalize hTL : Frame.tail ts = tl at *
  have HTL := Lib.hid hTL
  clear hte hTL
  have hne4 : tl ≠ [] := by intro h; rw [h] at hl4; simp at hl4
  obtain ⟨g3, cap3, rfl, hg30, hg31, _, _, _⟩ := hr3.is hne4
  have hz1 := hb.size
  have hz3 := hb13.size
  have HL4 := Lib.hid hl4
  clear hl4
  go_wp2_with fail
  have hb4 : Below w3.heap.size w3 (w3.alloc (.cells #[.slice (some ⟨w1.heap.size, 0, none⟩) 1 1, .slice (some ⟨g, 0, none⟩) ts.length cap2, .slice (some ⟨g3, 0, none⟩) tl.length cap3] 33)) := (Below.refl _ _).alloc (Nat.le_refl _) _
  have hP := parts_three (w3.alloc (.cells #[.slice (some ⟨w1.heap.size, 0, none⟩) 1 1, .slice (some ⟨g, 0, none⟩) ts.length cap2, .slice (some ⟨g3, 0, none⟩) tl.length cap3] 33)) w3.heap.size 33
    (some ⟨w1.heap.size, 0, none⟩) (some ⟨g, 0, none⟩) (some ⟨g3, 0, none⟩) [90] ts tl 1 cap2 cap3 (heap_alloc_new _ _) (fun h => by cases h) (fun h => by cases h) (fun h => by cases h)
    (fun ad h => by cases h; exact hlit3.news hb4 rfl) (fun ad h => by cases h; exact hr1.news hb4 rfl) (fun ad h => by cases h; exact hr3.news hb4 rfl)
  have hcat : cat (fun k => if k = 0 then [90] else if k = 1 then ts else tl) 3 = 90 :: (ts ++ tl) := by simp [cat]
  refine (join_any _ 3 3 _ _ _ _ hP (by omega) (by have := HL4.out; rw [hcat]; simp; omega)).mono ?_
  rintro e w5 ⟨g5, c5, rfl, hr5, hb5⟩
  have hF : 90 :: (ts ++ tl) = Frame.frameOf zs := by rw [← HTL.out, HTX.out]; rfl
  rw [hcat, hF] at hr5
  have hB := (hb.trans ((hb13.trans (hb4.mono hz3)).mono hz1)).trans (hb5.mono (by simp; omega))
  have HR := Lib.hid (hr5.less (B' := w.heap.size) (by simp; omega))
  have HC := Lib.hid (hcat.trans hF)
  clear hcat hF hr5 hb5 hP hb4 hr3 hr1 hlit3 hr hb hb13 hb3 htr hrd
  go_wp2
  go_ret2
  rw [HC.out] at *
  exact ⟨g5, c5, rfl, HR.out, hB⟩

theorem framePut_long (a : Option Addr) (len cap : Nat) (zs : List Int) (w : World) (hz : len = zs.length) (hp : Reads w a zs) (hl : 4096 < zs.length) :
    Calls Try.prog 33 #[.slice a len cap] w fun e w' => e = .returned (.tuple #[.slice none 0 0, .int .i64 3]) ∧ w' = w := by
  have hcv := hp.text len cap hz
  have hsz := strOfNums_size zs
  have hm := hp.hl
  have PT := Lib.hid (putText_long (strOfNums zs) (by omega) (by omega) w)
  clear hp hz hsz hm
  go_enter Try.func33, Try.ntmps33
  go_wp2_with fail
  refine PT.out.mono ?_
  rintro e w1 ⟨rfl, rfl⟩
  clear PT
  go_wp2_with fail
  go_ret2
  exact ⟨rfl, rfl⟩

end Go.Proofs.Ytjpbniajhkindaa
