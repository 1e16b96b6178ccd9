/- vote.record, by its contract: numbers as bytes, one behind the other. -/
import Derived.Test.YtaljfpkgancidaaVtA
import Derived.Test.YtaljfpkgancidaaTornV
import Derived.Test.YtaljfpkgancidaaPutA
namespace Go.Proofs.Ytaljfpkgancidaa
open Go.RowKit

theorem put_range {n : Nat} (h : n < 18446744073709551616) : ∀ x ∈ Num.put n, 0 ≤ x ∧ x ≤ 255 := Num.enc_range 9 n (Nat.lt_trans h (by decide))

set_option maxRecDepth 100000 in
set_option maxHeartbeats 1000000 in
theorem record_any (g c : Nat) (ns : List Nat) (w : World) (hs : Vt.Small ns) (hn : ns.length ≤ 10) (hc : ∀ i, i < ns.length → w.cell? ⟨g, i, none⟩ = some (.int .u64 ((ns.getD i 0 : Nat) : Int))) :
    Calls Try.prog 22 #[.slice (some ⟨g, 0, none⟩) ns.length c] w fun e w' => ∃ v, e = .returned v ∧ Row w' w.heap.size (Vt.recOf ns) v ∧ Below w.heap.size w w' := by
  obtain ⟨i0, hi, hz0, hz1, hz2⟩ := info_parts info5
  have HC := Lib.hid hc
  have HS := Lib.hid hs
  have HN := Lib.hid hn
  clear hc hs
  go_enter Try.func22, Try.ntmps22
  go_wp2
  go_loopw [3, 8] (fun b i wr => ∃ k : Nat, k ≤ ns.length ∧ i = .int .i64 k ∧ Row wr w.heap.size (Vt.recOf (ns.take k)) b ∧ Below w.heap.size w wr) (fun _ i _ => ns.length - (intOf i).toNat)
  case atStart => exact ⟨0, Nat.zero_le _, rfl, World.ownsRow_nil _ _ _ _, Below.refl _ _⟩
  case round =>
    obtain ⟨k, hk, rfl, hrow, hb⟩ := hrel
    by_cases hlt : k < ns.length
    · have hk0 := HC.out k hlt
      have hcell : wr.cell? ⟨g, k, none⟩ = some (.int .u64 ((ns.getD k 0 : Nat) : Int)) := (hb.cell (World.block_lt_of_cell? w _ hk0)).trans hk0
      have hbig : ns.getD k 0 < 18446744073709551616 := by
        have e : ns.getD k 0 = ns[k] := by simp [List.getD, hlt]
        rw [e]; exact HS.out _ (List.getElem_mem hlt)
      have hgr : ns.take (k + 1) = ns.take k ++ [ns.getD k 0] := by
        have e : ns.getD k 0 = ns[k] := by simp [List.getD, hlt]
        rw [e]; exact List.take_succ_eq_append_getElem hlt
      obtain ⟨n, hnn⟩ : ∃ n, n = ns.getD k 0 := ⟨_, rfl⟩
      rw [← hnn] at hcell hbig hgr
      have HGR := Lib.hid hgr
      have HP := Lib.hid (put_any n hbig wr)
      have HPR := Lib.hid (put_range hbig)
      have HROW := Lib.hid hrow
      have HB := Lib.hid hb
      clear hrow hb hk0 hgr hnn hbig hn
      go_wp2_with fail
      refine HP.out.mono ?_
      rintro e w1 ⟨v, rfl, hpv, hb1⟩
      have hpl := Num.put_len n
      have hn := HN.out
      have hrl := (Vt.recOf_len (ns.take k)).2
      rw [List.length_take] at hrl
      obtain ⟨a, cp, rfl, hh, hn0, hc1, hc2, _⟩ := row_src hpv HPR.out (by omega)
      have hrow1 : Row w1 w.heap.size _ _ := HROW.out.below hb1
      have hw1 : w.heap.size ≤ w1.heap.size := Nat.le_trans HB.out.size hb1.size
      have HB1 := Lib.hid (HB.out.trans (hb1.mono HB.out.size))
      have HNW := Lib.hid (reads_news hh.reads)
      clear hpv hh hb1 HP HPR HROW HB hcell
      go_wp2_with (at_builtin; go_loud (refine wpList_append_any _ rfl _ _ 25 rfl w.heap.size 5 i0 (.int .u8 0) 1 Try.underlying25 hi hz0 hz1 hz2 rfl _ _ _ rfl hrow1 a _ cp ((Num.put n).map (Value.int .u8)) rfl (by simp) hn0 HNW.out (ints_oneCell .u8 _) (by unfold maxLen; omega) (by omega) hw1 ?_))
      intro v' w2 hown hg
      have hrow2 : Row w2 w.heap.size (Vt.recOf (ns.take (k + 1))) v' := by
        rw [HGR.out, Vt.recOf_snoc]
        unfold Row
        rw [List.length_append, List.map_append]
        exact hown
      have hb2 : Below w.heap.size w w2 := HB1.out.grown hg hw1 (fun j e => (World.ownsRow.lt hrow1 j e).1)
      have HR2 := Lib.hid hrow2
      have HB2 := Lib.hid hb2
      clear hown hg hrow1 hrow2 hb2
      go_wp2
      go_roundw
      case rel => exact ⟨k + 1, by omega, by go_num, HR2.out, HB2.out⟩
      case measure => simp [intOf]; omega
    · obtain rfl : k = ns.length := by omega
      rw [List.take_length] at hrow
      go_wp2
      go_ret
      exact ⟨_, rfl, hrow, hb⟩

end Go.Proofs.Ytaljfpkgancidaa
