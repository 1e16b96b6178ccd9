/- cron.named and cron.Parse, by their contracts. -/
import Derived.Test.YtoghalmjbbkjhaaGreatDoorSpell
namespace Go.Proofs.YtoghalmjbbkjhaaGreatDoor
open Go.RowKit

def nm (j : Nat) : ByteArray := ba (Cron.tab.getD j [])
def NamesOn (w : World) : Prop := ∀ W, Below w.heap.size w W → ∀ j, j < 14 → W.cell? ⟨0, j, none⟩ = some (.string (nm j))
theorem NamesOn.next {w w' : World} (h : NamesOn w) (hb : Below w.heap.size w w') : NamesOn w' := fun W hW => h W (hb.trans (hW.mono hb.size))
theorem NamesOn.of {w : World} (h : ∀ j, j < 14 → w.cell? ⟨0, j, none⟩ = some (.string (nm j))) : NamesOn w := fun _ hb j hj => stays hb (h j hj)
def names14 : Array Value := #[.string (nm 0), .string (nm 1), .string (nm 2), .string (nm 3), .string (nm 4), .string (nm 5), .string (nm 6), .string (nm 7), .string (nm 8), .string (nm 9), .string (nm 10), .string (nm 11), .string (nm 12), .string (nm 13)]
theorem seven {P : Nat → Prop} (h0 : P 0) (h1 : P 1) (h2 : P 2) (h3 : P 3) (h4 : P 4) (h5 : P 5) (h6 : P 6) : ∀ i, i < 7 → P i := by
  intro i hi
  have : i = 0 ∨ i = 1 ∨ i = 2 ∨ i = 3 ∨ i = 4 ∨ i = 5 ∨ i = 6 := by omega
  rcases this with rfl | rfl | rfl | rfl | rfl | rfl | rfl <;> assumption
theorem index_names (i : Nat) (hi : i < 7) (w : World) : (Instr.index 100 (.agg names14) (.int .i64 (i : Int))).run Tryz.prog w = .ok (.agg #[.string (nm (2 * i)), .string (nm (2 * i + 1))]) w := by
  revert i
  refine seven ?_ ?_ ?_ ?_ ?_ ?_ ?_ <;> simp [Instr.index, run_underlying Tryz.underlying100, asIntOf, go_sem, names14]

namespace Cron
theorem tab_len : ∀ i : Fin 7, (tab.getD (2 * i.val + 1) []).length ≤ 400 := by decide
theorem nm_some {l t : List UInt8} (h : nameOf l = some t) : nmB l = spB t ∧ nmS l = spS t := by
  constructor
  · funext k; unfold nmB; rw [h]
  · funext k; unfold nmS; rw [h]
theorem nm_none {l : List UInt8} (h : nameOf l = none) : nmB l = (fun _ => 0) ∧ nmS l = (fun _ => false) := by
  constructor
  · funext k; unfold nmB; rw [h]
  · funext k; unfold nmS; rw [h]
end Cron

set_option maxRecDepth 100000 in
set_option maxHeartbeats 4000000 in
theorem named_any (s : ByteArray) (w : World) (hw : TabsOn w) (hn : NamesOn w) : Calls Tryz.prog 33 #[.string s] w fun e w' => e = .returned (xval (Cron.nmB s.data.toList) (Cron.nmS s.data.toList)) ∧ Below w.heap.size w w' := by
  have o : OwnX w w.heap.size (fun _ => 0) (fun _ => false) (w.alloc (.cells zeroX 43)) := OwnX.new w (fun _ => 0) (fun _ => false)
  have O := Lib.hid o
  have hc := hn _ o.bel
  have c0 := hc 0 (by decide)
  have c1 := hc 1 (by decide)
  have c2 := hc 2 (by decide)
  have c3 := hc 3 (by decide)
  have c4 := hc 4 (by decide)
  have c5 := hc 5 (by decide)
  have c6 := hc 6 (by decide)
  have c7 := hc 7 (by decide)
  have c8 := hc 8 (by decide)
  have c9 := hc 9 (by decide)
  have c10 := hc 10 (by decide)
  have c11 := hc 11 (by decide)
  have c12 := hc 12 (by decide)
  have c13 := hc 13 (by decide)
  have HW := Lib.hid hw
  have HI := index_names
  unfold names14 at HI
  have HI := Lib.hid HI
  clear o hc hn hw
  go_enter Tryz.func33, Tryz.ntmps33
  go_wp2_with fail
  clear c0 c1 c2 c3 c4 c5 c6 c7 c8 c9 c10 c11 c12 c13
  generalize (#[Value.string (nm 0), Value.string (nm 1), Value.string (nm 2), Value.string (nm 3), Value.string (nm 4), Value.string (nm 5), Value.string (nm 6), Value.string (nm 7), Value.string (nm 8), Value.string (nm 9), Value.string (nm 10), Value.string (nm 11), Value.string (nm 12), Value.string (nm 13)] : Array Value) = A at *
  go_loopg [8] 7 (fun g t wx => ∃ i : Nat, i + g = 7 ∧ t = .int .i64 (i : Int) ∧ Cron.nameOf s.data.toList = Cron.seek s.data.toList g i ∧ OwnX w w.heap.size (fun _ => 0) (fun _ => false) wx)
  case atStart => exact ⟨0, by omega, rfl, rfl, O.out⟩
  case round =>
    obtain ⟨i, hig, rfl, hsk, ox⟩ := hrel
    have HSK := Lib.hid hsk
    have OX := Lib.hid ox
    clear hsk ox O
    cases gk with
    | zero =>
      obtain rfl : i = 7 := by omega
      have HN := Lib.hid (Cron.nm_none HSK.out)
      obtain ⟨c0, c1, c2, c3, c4, c5, c6, c7, c8, c9⟩ := xobj_cells OX.out.row
      have f := fun j => row_free OX.out.row j
      go_wp2_with fail
      change bodyPost _ _ _ _ _ (putX wr w.heap.size (fun _ => 0) (fun _ => false))
      have hbF : Below w.heap.size w (putX wr w.heap.size (fun _ => 0) (fun _ => false)) := putX_below OX.out.bel (Nat.le_refl _)
      have hrF : (putX wr w.heap.size (fun _ => 0) (fun _ => false)).heap[w.heap.size]? = _ := putX_row OX.out.row
      clear c0 c1 c2 c3 c4 c5 c6 c7 c8 c9 f
      generalize putX wr w.heap.size (fun _ => 0) (fun _ => false) = WF at *
      obtain ⟨c0, c1, c2, c3, c4, c5, c6, c7, c8, c9⟩ := xobj_cells hrF
      refine bodyPost_ret (v := xval (fun _ => 0) (fun _ => false)) (by simp [results, Tryz.results33, go_sem, c0, c1, c2, c3, c4, c5, c6, c7, c8, c9, xval, xcells]) rfl ⟨by rw [HN.out.1, HN.out.2], hbF⟩
    | succ g =>
      have hi : i < 7 := by omega
      have hi7 : (i : Int) < 7 := by omega
      have hix : ∀ W, (Instr.index 100 (.agg A) (.int .i64 (i : Int))).run Tryz.prog W = .ok (.agg #[.string (nm (2 * i)), .string (nm (2 * i + 1))]) W := HI.out i hi
      have OX2 := Lib.hid (OX.out.alloc (.cells #[Value.string (nm (2 * i)), Value.string (nm (2 * i + 1))] 99))
      by_cases hs : Cron.tab.getD (2 * i) [] = s.data.toList
      · have he : ((nm (2 * i)).toList == s.toList) = true := by
          rw [Lib.toList_data, Lib.toList_data]
          show (Cron.tab.getD (2 * i) [] == s.data.toList) = true
          rw [hs]
          exact beq_self_eq_true _
        have HN := Lib.hid (Cron.nm_some (show Cron.nameOf s.data.toList = some (Cron.tab.getD (2 * i + 1) []) by rw [HSK.out]; unfold Cron.seek; rw [if_pos hs]))
        have SPL := fun W hW => spelled_any (nm (2 * i + 1)) (by unfold nm; rw [ba_size]; exact Cron.tab_len ⟨i, hi⟩) W hW
        have hnm : (nm (2 * i + 1)).data.toList = Cron.tab.getD (2 * i + 1) [] := rfl
        rw [hnm] at SPL
        clear hnm
        generalize Cron.spB (Cron.tab.getD (2 * i + 1) []) = B at *
        generalize Cron.spS (Cron.tab.getD (2 * i + 1) []) = S at *
        unfold xval xcells at SPL
        have SPL2 := Lib.hid SPL
        clear hs HSK SPL
        go_wp2_with fail
        with_reducible refine (SPL2.out _ (HW.out.next OX2.out.bel)).mono ?_
        rintro e w4 ⟨rfl, hb4⟩
        have OX4 := Lib.hid ((OX2.out.below hb4).alloc (.cells #[.int .u64 ((B 0 : Nat) : Int), .bool (S 0), .int .u64 ((B 1 : Nat) : Int), .bool (S 1), .int .u64 ((B 2 : Nat) : Int), .bool (S 2), .int .u64 ((B 3 : Nat) : Int), .bool (S 3), .int .u64 ((B 4 : Nat) : Int), .bool (S 4)] 43))
        clear hb4 SPL2 hix
        obtain ⟨c0, c1, c2, c3, c4, c5, c6, c7, c8, c9⟩ := xobj_cells OX4.out.row
        have f := fun j => row_free OX4.out.row j
        go_wp2_with fail
        change bodyPost _ _ _ _ _ (putX _ w.heap.size B S)
        have hbF := putX_below (b := B) (s := S) OX4.out.bel (Nat.le_refl w.heap.size)
        have hrF := putX_row (b := B) (s := S) OX4.out.row
        clear c0 c1 c2 c3 c4 c5 c6 c7 c8 c9 f
        generalize putX _ w.heap.size B S = WF at *
        obtain ⟨c0, c1, c2, c3, c4, c5, c6, c7, c8, c9⟩ := xobj_cells hrF
        refine bodyPost_ret (v := xval B S) (by simp [results, Tryz.results33, go_sem, c0, c1, c2, c3, c4, c5, c6, c7, c8, c9, xval, xcells]) rfl ⟨by rw [HN.out.1, HN.out.2], hbF⟩
      · have he : ((nm (2 * i)).toList == s.toList) = false := by
          rw [Lib.toList_data, Lib.toList_data]
          exact beq_eq_false_iff_ne.2 hs
        have HSK2 := Lib.hid (show Cron.nameOf s.data.toList = Cron.seek s.data.toList g (i + 1) by rw [HSK.out]; unfold Cron.seek; rw [if_neg hs]; cases g <;> rfl)
        clear hs HSK
        go_wp2_with fail
        go_roundg g
        case measure => omega
        case rel => exact ⟨i + 1, by omega, by go_num, HSK2.out, OX2.out⟩
end Go.Proofs.YtoghalmjbbkjhaaGreatDoor
