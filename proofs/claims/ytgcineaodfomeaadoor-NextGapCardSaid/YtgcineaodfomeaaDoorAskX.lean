/- cron.May and the reference's, by their contracts. -/
import Derived.Test.YtgcineaodfomeaaDoorExpr
import Derived.Test.YtgcineaodfomeaaDoorMay
import Derived.Test.YtgcineaodfomeaaDoorRefAsk
import Derived.Deep.LoopGhost
namespace Go.Proofs.YtgcineaodfomeaaDoor
open Go.RowKit

set_option maxRecDepth 100000 in
set_option maxHeartbeats 2000000 in
theorem mayX_any (b : Nat → Nat) (s : Nat → Bool) (hb : ∀ k, k < 5 → b k < 2 ^ 64) (w : World) (hw : TabsOn w) : Calls Tryd.prog 10 #[xval b s] w fun e w' => e = .returned (.bool (Cron.may b)) ∧ Below w.heap.size w w' := by
  have o := OwnX.new w b s
  obtain ⟨c0, c1, c2, c3, c4, c5, c6, c7, c8, c9⟩ := xobj_cells o.row
  have O := Lib.hid o
  have HW := Lib.hid hw
  have HM := fun (i : Nat) (hi : i < 5) W hW => may_any (i : Int) (b i) (hb i hi) (s i) W hW
  unfold fval at HM
  have HM := Lib.hid HM
  have HI := Lib.hid (index_expr b s)
  have HT := Lib.hid (@Cron.may_iff b)
  have HF := Lib.hid (@Cron.may_not b)
  generalize Cron.may b = R at *
  clear o hw hb
  unfold xval xcells
  unfold xcells at HI
  go_enter Tryd.func10, Tryd.ntmps10
  go_wp2_with fail
  clear c0 c1 c2 c3 c4 c5 c6 c7 c8 c9
  have bel := O.out.bel
  clear O
  generalize (#[.int .u64 ((b 0 : Nat) : Int), .bool (s 0), .int .u64 ((b 1 : Nat) : Int), .bool (s 1), .int .u64 ((b 2 : Nat) : Int), .bool (s 2), .int .u64 ((b 3 : Nat) : Int), .bool (s 3), .int .u64 ((b 4 : Nat) : Int), .bool (s 4)] : Array Value) = A at *
  go_loopg [6] 5 (fun g t wx => Below w.heap.size w wx ∧ ∃ i : Nat, i + g = 5 ∧ t = .int .i64 i ∧ ∀ j : Nat, j < i → Fld.may (j : Int) (b j) = true)
  case atStart => exact ⟨bel, 0, by omega, rfl, fun j hj => absurd hj (by omega)⟩
  case round =>
    obtain ⟨hbx, i, hig, rfl, hno⟩ := hrel
    have HN := Lib.hid hno
    clear hno
    cases gk with
    | zero =>
      obtain rfl : i = 5 := by omega
      have hR : R = true := HT.out.2 fun k hk => HN.out k hk
      subst hR
      go_wp2_with fail
      go_ret
      exact ⟨rfl, hbx⟩
    | succ g =>
      have hi : i < 5 := by omega
      have hi5 : (i : Int) < 5 := by omega
      have hix : ∀ W, (Instr.index 26 (.agg A) (.int .i64 (i : Int))).run Tryd.prog W = .ok (.agg #[.int .u64 ((b i : Nat) : Int), .bool (s i)]) W := HI.out i hi
      go_wp2_with fail
      have HW2 := Lib.hid (HW.out.next ((hbx.alloc hbx.size (.cells #[Value.int .u64 ((b i : Nat) : Int), Value.bool (s i)] 24))))
      with_reducible refine (HM.out i hi _ HW2.out).mono ?_
      rintro e w1 ⟨rfl, hb1⟩
      have hb2 := (hbx.alloc hbx.size (.cells #[Value.int .u64 ((b i : Nat) : Int), Value.bool (s i)] 24)).trans (hb1.mono (hbx.alloc hbx.size _).size)
      clear hix hbx hb1
      cases hfd : Fld.may (i : Int) (b i)
      · have hR : R = false := HF.out i hi hfd
        subst hR
        clear hfd
        go_wp2_with fail
        go_ret
        exact ⟨rfl, hb2⟩
      · have HD := Lib.hid hfd
        clear hfd
        go_wp2_with fail
        go_roundg g
        case measure => omega
        case rel => exact ⟨hb2, i + 1, by omega, by go_num, fun j hj => by
          by_cases e : j = i
          · rw [e]; exact HD.out
          · exact HN.out j (by omega)⟩

set_option maxRecDepth 100000 in
set_option maxHeartbeats 2000000 in
theorem refMayX_any (b : Nat → Nat) (s : Nat → Bool) (hb : ∀ k, k < 5 → b k < 2 ^ 64) (w : World) : Calls Tryd.prog 35 #[xval b s] w fun e w' => e = .returned (.bool (Cron.may b)) ∧ Below w.heap.size w w' := by
  have o := OwnX.new w b s
  have O := Lib.hid o
  have HM := Lib.hid (fun (i : Nat) (hi : i < 5) W => refMay_any (i : Int) (b i) (hb i hi) (s i) W)
  have HT := Lib.hid (@Cron.may_iff b)
  have HF := Lib.hid (@Cron.may_not b)
  generalize Cron.may b = R at *
  clear o hb
  unfold xval xcells
  go_enter Tryd.func35, Tryd.ntmps35
  go_wp2_with fail
  go_loopg [3] 5 (fun g t wx => OwnX w w.heap.size b s wx ∧ ∃ i : Nat, i + g = 5 ∧ t = .int .i64 i ∧ ∀ j : Nat, j < i → Fld.may (j : Int) (b j) = true)
  case atStart => exact ⟨O.out, 0, by omega, rfl, fun j hj => absurd hj (by omega)⟩
  case round =>
    obtain ⟨ow, i, hig, rfl, hno⟩ := hrel
    have HN := Lib.hid hno
    have OW := Lib.hid ow
    clear hno ow
    cases gk with
    | zero =>
      obtain rfl : i = 5 := by omega
      have hR : R = true := HT.out.2 fun k hk => HN.out k hk
      subst hR
      go_wp2_with fail
      go_ret
      exact ⟨rfl, OW.out.bel⟩
    | succ g =>
      have hi : i < 5 := by omega
      have hi5 : (i : Int) < 5 := by omega
      obtain ⟨d0, d1⟩ := xobj_at OW.out.row i hi
      go_wp2_with fail
      with_reducible refine (HM.out i hi _).mono ?_
      rintro e w1 ⟨rfl, hb1⟩
      have OW2 := Lib.hid (OW.out.below hb1)
      clear d0 d1 hb1
      cases hfd : Fld.may (i : Int) (b i)
      · have hR : R = false := HF.out i hi hfd
        subst hR
        clear hfd
        go_wp2_with fail
        go_ret
        exact ⟨rfl, OW2.out.bel⟩
      · have HD := Lib.hid hfd
        clear hfd
        go_wp2_with fail
        go_roundg g
        case measure => omega
        case rel => exact ⟨OW2.out, i + 1, by omega, by go_num, fun j hj => by
          by_cases e : j = i
          · rw [e]; exact HD.out
          · exact HN.out j (by omega)⟩
end Go.Proofs.YtgcineaodfomeaaDoor
