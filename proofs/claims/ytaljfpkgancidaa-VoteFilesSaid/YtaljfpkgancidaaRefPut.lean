/- The reference's Put of layer 3, by its contract. -/
import Derived.Test.YtaljfpkgancidaaRefOf
import Derived.Test.YtaljfpkgancidaaHere
namespace Go.Proofs.Ytaljfpkgancidaa
open Go.RowKit

set_option maxRecDepth 100000 in
set_option maxHeartbeats 1000000 in
theorem refFramePut_any (a : Option Addr) (len cap : Nat) (zs : List Int) (w : World) (hz : len = zs.length) (hp : Reads w a zs) (hl : zs.length ≤ 4096) :
    Calls Try.prog 29 #[.slice a len cap] w fun e w' => ∃ g c, e = .returned (.tuple #[.slice (some ⟨g, 0, none⟩) (Frame.frameOf zs).length c, .int .i64 0]) ∧
      Row w' w.heap.size (Frame.frameOf zs) (.slice (some ⟨g, 0, none⟩) (Frame.frameOf zs).length c) ∧ Below w.heap.size w w' := by
  obtain ⟨i0, hi, hz0, hz1, hz2⟩ := info_parts info5
  have hcv := hp.text len cap hz
  have hsz := strOfNums_size zs
  have hbl := bl_str hp.hr
  have hrr := hp.hr
  clear hp hz
  have HS := Lib.hid hsz
  have HB := Lib.hid hbl
  have HRR := Lib.hid hrr
  clear hsz hbl hrr
  have PT := Lib.hid (refPutText_any (strOfNums zs) (by rw [HS.out]; exact hl) w)
  rw [HS.out, HB.out] at PT
  go_enter Try.func29, Try.ntmps29
  go_wp2_with fail
  refine PT.out.mono ?_
  rintro e w1 ⟨v, rfl, hr, hb⟩
  clear PT
  have htx : Num.put zs.length ++ zs = Frame.txt zs := rfl
  have htl := Frame.txt_len zs
  have hpl := Num.put_len zs.length
  have htr := Frame.txt_range hl HRR.out
  rw [htx] at hr
  obtain ⟨ts, hts⟩ : ∃ ts, ts = Frame.txt zs := ⟨_, rfl⟩
  rw [← hts] at hr htl htr
  have HTX := Lib.hid hts
  clear htx hts
  have hne : ts ≠ [] := by intro h; rw [h] at htl; simp at htl; omega
  obtain ⟨g, cap2, rfl, hg0, hg1, hc1, hc2, _⟩ := hr.is hne
  have hmax : maxLen = 9223372036854775807 := rfl
  have htl2 : ts.length ≤ 4106 := by omega
  clear htl hpl
  have hhere : Here w1 g ts := (hr.here htr (by omega)).1
  go_wp2_with fail
  refine (refMasked_any (some ⟨g, 0, none⟩) ts.length cap2 ts _ rfl hhere.reads (by omega)).mono ?_
  rintro e w2 ⟨rfl, hb2⟩
  have hmk := Crc.mask_lt (Crc.crc ts)
  have hte : Frame.le4 (Crc.mask (Crc.crc ts)) = Frame.tail ts := rfl
  obtain ⟨mk, hmkd⟩ : ∃ mk, mk = Crc.mask (Crc.crc ts) := ⟨_, rfl⟩
  rw [← hmkd] at hmk hte ⊢
  have HTE := Lib.hid hte
  clear hte hmkd
  have hh2 := hhere.below hb2
  have hbz := hb.size
  have hb12 := hb.trans (hb2.mono hbz)
  have hlit := Row.lit1 w2 90
  unfold Row at hlit
  have hbl2 : Below w2.heap.size w2 (w2.alloc (.cells #[.int .u8 90] 5)) := (Below.refl _ _).alloc (Nat.le_refl _) _
  clear hb2 hr hhere
  go_wp2_with (at_builtin; go_loud (refine wpList_append_own _ rfl _ _ 25 rfl w2.heap.size 5 i0 (.int .u8 0) 1 1 Try.underlying25 hi hz0 hz1 hz2 rfl (by decide) _ _ _ rfl hlit ⟨g, 0, none⟩ ts.length cap2 (ts.map (Value.int .u8)) rfl (by simp) ((hh2.below hbl2).reads.news) (ints_oneCell .u8 _) (by unfold maxLen; simp; omega) (by simp; omega) (by simp) ?_))
  intro v3 w3 hown3 hg3 _
  have hb3 := hbl2.grown hg3 (by simp) (fun k hk => by simp [Value.ownBlock] at hk; omega)
  have hlit4 : ∀ (p q r s : Int) (j : Nat) (u : Value), [Value.int .u8 p, .int .u8 q, .int .u8 r, .int .u8 s][j]? = some u → (w3.alloc (.cells #[.int .u8 p, .int .u8 q, .int .u8 r, .int .u8 s] 5)).cell? ((⟨w3.heap.size, 0, none⟩ : Addr).add j) = some u := by
    intro p q r s j u hj
    match j, hj with
    | 0, hj => simp at hj; subst hj; simp [Addr.add]
    | 1, hj => simp at hj; subst hj; simp [Addr.add]
    | 2, hj => simp at hj; subst hj; simp [Addr.add]
    | 3, hj => simp at hj; subst hj; simp [Addr.add]
  have hw23 := hb3.size
  have hown3' := hown3
  clear hown3 hg3 hlit hbl2 hh2
  go_wp2_with (at_builtin; go_loud (refine wpList_append_own _ rfl _ _ 25 rfl w2.heap.size 5 i0 (.int .u8 0) 1 1 Try.underlying25 hi hz0 hz1 hz2 rfl (by decide) _ _ _ rfl (hown3'.alloc _) ⟨w3.heap.size, 0, none⟩ 4 4 [.int .u8 ((mk : Int) % 256), .int .u8 ((mk : Int) / 256 % 256), .int .u8 ((mk : Int) / 65536 % 256), .int .u8 ((mk : Int) / 16777216)] rfl rfl (hlit4 _ _ _ _) (ints_oneCell .u8 [(mk : Int) % 256, (mk : Int) / 256 % 256, (mk : Int) / 65536 % 256, (mk : Int) / 16777216]) (by unfold maxLen; simp; omega) (by simp; omega) (by simp; omega) ?_))
  intro v4 w4 hown4 hg4 _
  have hb4 := (hb3.alloc hw23 (.cells #[.int .u8 ((mk : Int) % 256), .int .u8 ((mk : Int) / 256 % 256), .int .u8 ((mk : Int) / 65536 % 256), .int .u8 ((mk : Int) / 16777216)] 5)).grown hg4 (by simp; omega) (fun k hk => (hown3'.lt k hk).1)
  have hF : Frame.frameOf zs = 90 :: (ts ++ [(mk : Int) % 256, (mk : Int) / 256 % 256, (mk : Int) / 65536 % 256, (mk : Int) / 16777216]) := by
    unfold Frame.frameOf
    rw [← HTX.out, ← HTE.out]
    simp only [Frame.le4]
    congr 4
  have hrow : Row w4 w.heap.size (Frame.frameOf zs) v4 := by
    refine Row.less (B := w2.heap.size) ?_ hb12.size
    unfold Row
    rw [hF]
    have e : 1 + ts.length + 4 = (90 :: (ts ++ [(mk : Int) % 256, (mk : Int) / 256 % 256, (mk : Int) / 65536 % 256, (mk : Int) / 16777216])).length := by simp; omega
    rw [← e]
    simpa using hown4
  have HF := Lib.hid hF
  have HBB := Lib.hid (hb12.trans (hb4.mono hb12.size))
  have HROW := Lib.hid hrow
  have hnef : Frame.frameOf zs ≠ [] := by unfold Frame.frameOf; simp
  obtain ⟨g4, c4, rfl, _⟩ := hrow.is hnef
  clear hown4 hg4 hown3' hlit4 hb12 hb3 hb4 hb hF hrow
  go_wp2
  go_ret2
  exact ⟨g4, c4, rfl, HROW.out, HBB.out⟩

theorem refFramePut_long (a : Option Addr) (len cap : Nat) (zs : List Int) (w : World) (hz : len = zs.length) (hp : Reads w a zs) (hl : 4096 < zs.length) :
    Calls Try.prog 29 #[.slice a len cap] w fun e w' => e = .returned (.tuple #[.slice none 0 0, .int .i64 3]) ∧ w' = w := by
  have hcv := hp.text len cap hz
  have hsz := strOfNums_size zs
  have hm := hp.hl
  have PT := Lib.hid (refPutText_long (strOfNums zs) (by omega) (by omega) w)
  clear hp hz hsz hm
  go_enter Try.func29, Try.ntmps29
  go_wp2_with fail
  refine PT.out.mono ?_
  rintro e w1 ⟨rfl, rfl⟩
  clear PT
  go_wp2_with fail
  go_ret2
  exact ⟨rfl, rfl⟩

end Go.Proofs.Ytaljfpkgancidaa
