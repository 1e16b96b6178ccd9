/- A world for the witness: the settled one, with the tables as the rows list them. -/
import Derived.Test.YtoamhjcnajljlaaGreatDoorTabs7
import Derived.Great.CaseRows
import Derived.Lib.LaidIn
import Derived.Deep.DeepHandedRow
import Derived.Deep.DeepWitnessRowRef
import Derived.ProofKit
import Derived.WalkKit
import Derived.OpenShut
import Derived.Lib.SmallJoins
import Derived.SevenTiedAt
namespace Go.Proofs.YtoamhjcnajljlaaGreatDoor
open Go.ChangeShapes Go.WideShapes Go.RowKit Go.Lib

theorem ownLaid : ownKnob Tryz.prog.godebug = none := by kernel_rfl
def flat0 (d : DataW Unit) : List Value :=
  match d with
  | .lit (.int k z) => [.int k z]
  | .lit (.string s) => [.string ⟨s.toArray⟩]
  | _ => []
def flat1 (d : DataW Unit) : List Value :=
  match d with
  | .agg l => l.flatMap flat0
  | d => flat0 d
def flat2 (d : DataW Unit) : Array Value :=
  match d with
  | .agg l => (l.flatMap flat1).toArray
  | .slice l _ => (l.flatMap flat1).toArray
  | _ => #[]
def errText (d : DataW Unit) : Array Value :=
  match d with
  | .iface _ (.ptr d) => (flat1 d).toArray
  | _ => #[]
def putC (h : Array Obj) (g : Nat) (cs : Array Value) : Array Obj := h.modify g fun
  | .cells _ t frozen => .cells cs t frozen
  | o => o
noncomputable def laidWorld (os : Os) : World :=
  let N := (World.settled Tryz.prog os).heap.size
  let w0 := World.holding Tryz.prog os ⟨#[.cells (flat2 Rows.laid_unicode_caseOrbit) 140, .cells (errText Rows.laid_strconv_ErrSyntax) 165, .cells (errText Rows.laid_strconv_ErrRange) 165, .cells (Lib.caseT.flatMap Lib.cells5).toArray 157], #[], []⟩
  let h0 := putC w0.heap 1 (flat2 Rows.laid_ringer_field_bounds)
  let h1 := putC h0 3 (flat2 Rows.laid_math_bits_deBruijn64tab)
  let h2 := putC h1 4 (flat2 Rows.laid_ringer_field_names)
  let h4 := putC h2 8 (flat2 Rows.laid_unicode_asciiFold)
  let h5 := putC h4 9 #[.slice (some ⟨N, 0, none⟩) 94 94]
  let h6 := putC h5 10 #[.slice (some ⟨N + 3, 0, none⟩) Lib.caseT.length Lib.caseT.length]
  let h7 := putC h6 6 (Lib.firstTab.map fun z => Value.int .u8 z).toArray
  let h8 := putC h7 7 (flat2 Rows.laid_unicode_utf8_acceptRanges)
  let h9 := putC h8 12 #[.iface 163 (.pointer (some ⟨N + 1, 0, none⟩))]
  let h10 := putC h9 13 #[.iface 163 (.pointer (some ⟨N + 2, 0, none⟩))]
  let h11 := putC h10 11 (flat2 Rows.laid_internal_strconv_uint64pow10)
  let h12 := putC h11 14 (flat2 Rows.laid_math_bits_deBruijn32tab)
  let h13 := putC h12 2 (flat2 Rows.laid_ringer_civil_months)
  let h14 := putC h13 0 (flat2 Rows.laid_ringer_cron_names)
  { w0 with heap := h14 }
noncomputable abbrev N0 : Nat := (World.settled Tryz.prog default).heap.size
theorem cty : Go.Great.CTypes Tryz.prog 143 157 155 133 21 := ⟨by kernel_rfl, by kernel_rfl, by kernel_rfl, by kernel_rfl, by kernel_rfl, by kernel_rfl, by kernel_rfl, by kernel_rfl, by kernel_rfl⟩
section
variable (os : Os) (args : Array Value)
theorem piece1 : LaidIn Tryz.prog ((laidWorld os).forCall (fun _ _ => 0) ⟨#[], args, []⟩).memory (laidAll.take 12) [14, 3, 11, 2, 7, 13, N0 + 2, 12, N0 + 1, 8, 9, N0, 1, 4, 0] :=
  LaidIn.of_run _ 8 (by kernel_rfl) (by kernel_rfl) (by kernel_rfl) (by kernel_rfl)
theorem piece2 : LaidIn Tryz.prog ((laidWorld os).forCall (fun _ _ => 0) ⟨#[], args, []⟩).memory [("unicode.CaseRanges", .slice (Lib.caseT.map rowData) [])] [10, N0 + 3] :=
  Go.Great.laidIn_case cty (name := "unicode.CaseRanges") (g := 10) (B := N0 + 3) (tg := 143) (tb := 157) Lib.caseT (by kernel_rfl) (by kernel_rfl) (Nat.le_of_ble_eq_true (by kernel_rfl)) rowsWf (by kernel_rfl) (by kernel_rfl) (Nat.ne_of_beq_eq_false (by kernel_rfl))
theorem piece3 : LaidIn Tryz.prog ((laidWorld os).forCall (fun _ _ => 0) ⟨#[], args, []⟩).memory [("unicode/utf8.first", firstData)] [6] :=
  LaidIn.of_run _ 8 (by kernel_rfl) (by kernel_rfl) (by kernel_rfl) (by kernel_rfl)
theorem laid_met : laidMet Tryz.prog laidAll ((laidWorld os).forCall (fun _ _ => 0) ⟨#[], args, []⟩).memory := by
  have h := (((piece1 os args).append (piece2 os args) (by kernel_rfl)).append (piece3 os args) (by kernel_rfl)).met
  have e : laidAll.take 12 ++ [("unicode.CaseRanges", DataW.slice (Lib.caseT.map rowData) [])] ++ [("unicode/utf8.first", firstData)] = laidAll := by
    rw [← Pinned.utf8First_eq]
    show laidAll.take 12 ++ [("unicode.CaseRanges", caseData)] ++ _ = _
    rw [← Pinned.caseRanges_eq]
    rfl
  rw [e] at h
  exact h
theorem world_ok : ((laidWorld os).forCall (fun _ _ => 0) ⟨#[], args, []⟩).variablesRefB Tryz.prog = true := by kernel_rfl
end
end Go.Proofs.YtoamhjcnajljlaaGreatDoor
