/- cron.Parse, by its contract. -/
import Derived.Test.YtoamhjcnajljlaaGreatDoorEqX
namespace Go.Proofs.YtoamhjcnajljlaaGreatDoor
open Go.RowKit

namespace Cron
theorem p_long {l : List UInt8} (h : 400 < l.length) : pErr l = 3 ∧ pB l = (fun _ => 0) ∧ pS l = (fun _ => false) := by
  refine ⟨?_, ?_, ?_⟩
  · unfold pErr; rw [if_pos h]
  · funext k; unfold pB; rw [if_pos h]
  · funext k; unfold pS; rw [if_pos h]
theorem p_plain {l : List UInt8} (h : ¬ 400 < l.length) (hp : Lib.hasPrefix l [64] = false) : pErr l = spErr l ∧ pB l = spB l ∧ pS l = spS l := by
  refine ⟨?_, ?_, ?_⟩
  · unfold pErr; rw [if_neg h, if_neg (by rw [hp]; decide)]
  · funext k; unfold pB; rw [if_neg h, if_neg (by rw [hp]; decide)]
  · funext k; unfold pS; rw [if_neg h, if_neg (by rw [hp]; decide)]
theorem p_name {l : List UInt8} (h : ¬ 400 < l.length) (hp : Lib.hasPrefix l [64] = true) : pErr l = (if nameOf l = none then 70 else 0) ∧ pB l = nmB l ∧ pS l = nmS l := by
  refine ⟨?_, ?_, ?_⟩
  · unfold pErr; rw [if_neg h, if_pos hp]
  · funext k; unfold pB; rw [if_neg h, if_pos hp]
  · funext k; unfold pS; rw [if_neg h, if_pos hp]
end Cron

/-- what Parse tells -/
def pres7 (b : Nat → Nat) (s : Nat → Bool) (e : Nat) : Value := .tuple #[xval b s, .int .i64 (e : Int)]
set_option maxRecDepth 100000 in
set_option maxHeartbeats 4000000 in
theorem parseX_any (s : ByteArray) (w : World) (hw : TabsOn w) (hn : NamesOn w) : Calls Tryz.prog 7 #[.string s] w fun e w' => e = .returned (pres7 (Cron.pB s.data.toList) (Cron.pS s.data.toList) (Cron.pErr s.data.toList)) ∧ Below w.heap.size w w' := by
  have o : OwnX w w.heap.size (fun _ => 0) (fun _ => false) (w.alloc (.cells zeroX 27)) := OwnX.new w (fun _ => 0) (fun _ => false)
  have O := Lib.hid o
  have HW := Lib.hid hw
  have HN := Lib.hid hn
  have hsz : s.size = s.data.toList.length := Lib.size_eq s
  clear hw hn
  by_cases hl : 400 < s.data.toList.length
  · obtain ⟨e1, e2, e3⟩ := Cron.p_long hl
    rw [e1, e2, e3]
    have gl : decide ((400 : Int) < (s.size : Int)) = true := by simp; omega
    clear e1 e2 e3 hl hsz
    clear o
    go_enter Tryz.func7, Tryz.ntmps7
    go_wp2_with fail
    have hbF := O.out.bel
    have hrF := O.out.row
    clear O
    change bodyPost _ _ _ _ _ (w.alloc (.cells zeroX 27))
    generalize w.alloc (.cells zeroX 27) = WF at *
    obtain ⟨c0, c1, c2, c3, c4, c5, c6, c7, c8, c9⟩ := xobj_cells hrF
    refine bodyPost_ret (v := .tuple #[xval (fun _ => 0) (fun _ => false), .int .i64 3]) (by simp [results, Tryz.results7, go_sem, c0, c1, c2, c3, c4, c5, c6, c7, c8, c9, xval, xcells]) rfl ⟨rfl, hbF⟩
  · have gl : decide ((400 : Int) < (s.size : Int)) = false := by simp; omega
    have h4 : s.size ≤ 400 := by omega
    cases hp : Lib.hasPrefix s.data.toList [64]
    · obtain ⟨e1, e2, e3⟩ := Cron.p_plain hl hp
      rw [e1, e2, e3]
      have SPL := fun W hW => spelled_any s h4 W hW
      have HPF := Lib.hid hp
      clear e1 e2 e3 hl hsz h4 o hp
      generalize Cron.spB s.data.toList = B at *
      generalize Cron.spS s.data.toList = S at *
      generalize Cron.spErr s.data.toList = E at *
      unfold pres7
      unfold xval xcells at SPL
      have SPL2 := Lib.hid SPL
      clear SPL
      go_enter Tryz.func7, Tryz.ntmps7
      go_wp2_with fail
      with_reducible refine (Tryz.strings_HasPrefix _ _ _).mono ?_
      rintro e w1 ⟨rfl, rfl⟩
      rw [show (ByteArray.mk #[64]).data.toList = [64] from rfl, HPF.out]
      go_wp2_with fail
      with_reducible refine (SPL2.out _ (HW.out.next O.out.bel)).mono ?_
      rintro e w1 ⟨rfl, hb1⟩
      have O1 := Lib.hid (O.out.below hb1)
      clear hb1 O SPL2
      obtain ⟨c0, c1, c2, c3, c4, c5, c6, c7, c8, c9⟩ := xobj_cells O1.out.row
      have f := fun j => row_free O1.out.row j
      go_wp2_with fail
      change bodyPost _ _ _ _ _ (putX _ w.heap.size B S)
      have hbF := putX_below (b := B) (s := S) O1.out.bel (Nat.le_refl w.heap.size)
      have hrF := putX_row (b := B) (s := S) O1.out.row
      clear c0 c1 c2 c3 c4 c5 c6 c7 c8 c9 f
      generalize putX _ w.heap.size B S = WF at *
      obtain ⟨c0, c1, c2, c3, c4, c5, c6, c7, c8, c9⟩ := xobj_cells hrF
      refine bodyPost_ret (v := .tuple #[xval B S, .int .i64 (E : Int)]) (by simp [results, Tryz.results7, go_sem, c0, c1, c2, c3, c4, c5, c6, c7, c8, c9, xval, xcells]) rfl ⟨rfl, hbF⟩
    · obtain ⟨e1, e2, e3⟩ := Cron.p_name hl hp
      rw [e1, e2, e3]
      have NMD := fun W hW hN => named_any s W hW hN
      have HPF := Lib.hid hp
      clear e1 e2 e3 hl hsz h4 o hp
      cases hno : Cron.nameOf s.data.toList with
      | none =>
        rw [if_pos rfl]
        obtain ⟨e1, e2⟩ := Cron.nm_none hno
        rw [e1, e2] at NMD
        rw [e1, e2]
        unfold pres7
        unfold xval xcells at NMD
        have NMD2 := Lib.hid NMD
        clear NMD e1 e2 hno
        go_enter Tryz.func7, Tryz.ntmps7
        go_wp2_with fail
        with_reducible refine (Tryz.strings_HasPrefix _ _ _).mono ?_
        rintro e w1 ⟨rfl, rfl⟩
        rw [show (ByteArray.mk #[64]).data.toList = [64] from rfl, HPF.out]
        go_wp2_with fail
        with_reducible refine (NMD2.out _ (HW.out.next O.out.bel) (HN.out.next O.out.bel)).mono ?_
        rintro e w1 ⟨rfl, hb1⟩
        have O1 := Lib.hid (O.out.below hb1)
        clear hb1 O NMD2
        have OX := Lib.hid (O1.out.alloc (.cells zeroX 27))
        obtain ⟨c0, c1, c2, c3, c4, c5, c6, c7, c8, c9⟩ := xobj_cells OX.out.row
        have f := fun j => row_free OX.out.row j
        have hEQ := eq_none
        have z0 : (((0 : Nat) : Int)) = 0 := rfl
        simp only [z0]
        go_wp2_with fail
        change bodyPost _ _ _ _ _ (putX _ w.heap.size (fun _ => 0) (fun _ => false))
        have hbF := putX_below (b := fun _ => 0) (s := fun _ => false) OX.out.bel (Nat.le_refl w.heap.size)
        have hrF := putX_row (b := fun _ => 0) (s := fun _ => false) OX.out.row
        clear c0 c1 c2 c3 c4 c5 c6 c7 c8 c9 f
        generalize putX _ w.heap.size (fun _ => 0) (fun _ => false) = WF at *
        obtain ⟨c0, c1, c2, c3, c4, c5, c6, c7, c8, c9⟩ := xobj_cells hrF
        refine bodyPost_ret (v := .tuple #[xval (fun _ => 0) (fun _ => false), .int .i64 70]) (by simp [results, Tryz.results7, go_sem, c0, c1, c2, c3, c4, c5, c6, c7, c8, c9, xval, xcells]) rfl ⟨rfl, hbF⟩
      | some t =>
        rw [if_neg (by simp)]
        obtain ⟨e1, e2⟩ := Cron.nm_some hno
        have hz := (Cron.name_ok hno).2
        rw [e1, e2] at NMD
        rw [e1, e2]
        unfold pres7
        generalize Cron.spB t = B at *
        generalize Cron.spS t = S at *
        unfold xval xcells at NMD
        have NMD2 := Lib.hid NMD
        clear NMD e1 e2 hno
        go_enter Tryz.func7, Tryz.ntmps7
        go_wp2_with fail
        with_reducible refine (Tryz.strings_HasPrefix _ _ _).mono ?_
        rintro e w1 ⟨rfl, rfl⟩
        rw [show (ByteArray.mk #[64]).data.toList = [64] from rfl, HPF.out]
        go_wp2_with fail
        with_reducible refine (NMD2.out _ (HW.out.next O.out.bel) (HN.out.next O.out.bel)).mono ?_
        rintro e w1 ⟨rfl, hb1⟩
        have O1 := Lib.hid (O.out.below hb1)
        clear hb1 O NMD2
        have OX := Lib.hid (O1.out.alloc (.cells #[.int .u64 ((B 0 : Nat) : Int), .bool (S 0), .int .u64 ((B 1 : Nat) : Int), .bool (S 1), .int .u64 ((B 2 : Nat) : Int), .bool (S 2), .int .u64 ((B 3 : Nat) : Int), .bool (S 3), .int .u64 ((B 4 : Nat) : Int), .bool (S 4)] 27))
        obtain ⟨c0, c1, c2, c3, c4, c5, c6, c7, c8, c9⟩ := xobj_cells OX.out.row
        have f := fun j => row_free OX.out.row j
        have hEQ := eq_other B S hz
        unfold xcells at hEQ
        go_wp2_with fail
        change bodyPost _ _ _ _ _ (putX _ w.heap.size B S)
        have hbF := putX_below (b := B) (s := S) OX.out.bel (Nat.le_refl w.heap.size)
        have hrF := putX_row (b := B) (s := S) OX.out.row
        clear c0 c1 c2 c3 c4 c5 c6 c7 c8 c9 f
        generalize putX _ w.heap.size B S = WF at *
        obtain ⟨c0, c1, c2, c3, c4, c5, c6, c7, c8, c9⟩ := xobj_cells hrF
        refine bodyPost_ret (v := .tuple #[xval B S, .int .i64 0]) (by simp [results, Tryz.results7, go_sem, c0, c1, c2, c3, c4, c5, c6, c7, c8, c9, xval, xcells]) rfl ⟨rfl, hbF⟩
end Go.Proofs.YtoamhjcnajljlaaGreatDoor
