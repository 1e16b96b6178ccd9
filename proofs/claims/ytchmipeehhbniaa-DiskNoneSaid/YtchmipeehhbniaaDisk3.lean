/- file, appended, by their contracts. -/
import Derived.Test.YtchmipeehhbniaaDisk2
namespace Go.Proofs.Ytchmipeehhbniaa
open Go.RowKit Go.Maps Dsk

set_option maxRecDepth 100000 in
set_option maxHeartbeats 1000000 in
theorem file_any (g B N : Nat) (o : Tags) (M : Files) (l : Name) (w : World) (hd : DiskAt w B o g M N) (hl : l.length ≤ 64) :
    Calls Try.prog 19 #[.pointer (some ⟨g, 0, none⟩), .string ⟨l.toArray⟩] w fun e w' => ∃ c, e = .returned (mkV c) ∧ FileAt w B o l c (M.at l) ∧ Below w.heap.size w w' := by
  obtain ⟨b, D, hd⟩ := hd
  have hB : Below w.heap.size w (w.alloc (.cells #[.bool false, .slice none 0 0, .int .i64 0, .slice none 0 0, .bool false] 47)) := (Below.refl _ _).alloc (Nat.le_refl _) _
  have hcW := (hd.below hB).cell
  obtain ⟨⟨t, sa, sn, sc, wh, la, ln, lc, ls⟩, hf, hrun, _⟩ := (hd.below hB).look l (by unfold maxLen; omega)
  simp only [mkV] at hrun
  have HF := Lib.hid (show FileAt w B o l ⟨t, sa, sn, sc, wh, la, ln, lc, ls⟩ (M.at l) from hf.keep (fun k j e => (hB.block k (hd.own k (by rw [e]; simp)).2).symm) (fun k j e => e))
  clear hf hd
  go_enter Try.func19, Try.ntmps19
  go_wp2
  refine bodyPost_ret (v := .agg #[.bool t, .slice sa sn sc, .int .i64 wh, .slice la ln lc, .bool ls]) ?_ rfl ⟨⟨t, sa, sn, sc, wh, la, ln, lc, ls⟩, rfl, HF.out, (Below.refl _ _).alloc (Nat.le_refl _) _⟩
  simp [results, Try.results19, go_sem]

set_option maxHeartbeats 400000 in
theorem appended_any (t : Bool) (a : Option Addr) (n c wh : Nat) (w : World) (h : wh ≤ n) (hn : n ≤ 1048576) :
    Calls Try.prog 28 #[.agg #[.bool t, .slice a n c, .int .i64 wh]] w fun e w' => e = .returned (.int .i64 ((n - wh : Nat) : Int)) ∧ Below w.heap.size w w' := by
  have hB : Below w.heap.size w (w.alloc (.cells #[.bool t, .slice a n c, .int .i64 wh] 44)) := (Below.refl _ _).alloc (Nat.le_refl _) _
  go_enter Try.func28, Try.ntmps28
  go_wp2
  go_ret
  refine ⟨?_, hB⟩
  show Ending.returned (.int .i64 ((n : Int) - wh)) = _
  rw [Int.ofNat_sub h]
end Go.Proofs.Ytchmipeehhbniaa
