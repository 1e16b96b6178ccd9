/- A world for the witness: the settled one, with the tables as the rows list them. -/
import Derived.Test.YtdoahooadjbgjaaDoorTabs6
import Derived.Great.CaseRows
import Derived.Lib.LaidIn
import Derived.Deep.DeepHandedRow
import Derived.Deep.DeepWitnessRowRef
import Derived.ProofKit
import Derived.WalkKit
import Derived.OpenShut
import Derived.Lib.SmallJoins
import Derived.SevenTiedAt
namespace Go.Proofs.YtdoahooadjbgjaaDoor
open Go.ChangeShapes Go.WideShapes Go.RowKit Go.Lib

theorem ownLaid : ownKnob Tryd.prog.godebug = none := by kernel_rfl
def flat0 (d : DataW Unit) : List Value :=
  match d with
  | .lit (.int k z) => [.int k z]
  | .lit (.string s) => [.string ⟨s.toArray⟩]
  | _ => []
def flat1 (d : DataW Unit) : List Value :=
  match d with
  | .agg l => l.flatMap flat0
  | d => flat0 d
def flat2 (d : DataW Unit) : Array Value :=
  match d with
  | .agg l => (l.flatMap flat1).toArray
  | .slice l _ => (l.flatMap flat1).toArray
  | _ => #[]
def errText (d : DataW Unit) : Array Value :=
  match d with
  | .iface _ (.ptr d) => (flat1 d).toArray
  | _ => #[]
def putC (h : Array Obj) (g : Nat) (cs : Array Value) : Array Obj := h.modify g fun
  | .cells _ t frozen => .cells cs t frozen
  | o => o
noncomputable def laidWorld (os : Os) : World :=
  let N := (World.settled Tryd.prog os).heap.size
  let w0 := World.holding Tryd.prog os ⟨#[.cells (flat2 Rows.laid_unicode_caseOrbit) 99, .cells (errText Rows.laid_strconv_ErrSyntax) 135, .cells (errText Rows.laid_strconv_ErrRange) 135, .cells (Lib.caseT.flatMap Lib.cells5).toArray 124], #[], []⟩
  let h0 := putC w0.heap 0 (flat2 Rows.laid_ringer_field_bounds)
  let h1 := putC h0 1 (flat2 Rows.laid_math_bits_deBruijn64tab)
  let h2 := putC h1 2 (flat2 Rows.laid_ringer_field_names)
  let h4 := putC h2 4 (flat2 Rows.laid_unicode_asciiFold)
  let h5 := putC h4 5 #[.slice (some ⟨N, 0, none⟩) 94 94]
  let h6 := putC h5 6 #[.slice (some ⟨N + 3, 0, none⟩) Lib.caseT.length Lib.caseT.length]
  let h7 := putC h6 7 (Lib.firstTab.map fun z => Value.int .u8 z).toArray
  let h8 := putC h7 8 (flat2 Rows.laid_unicode_utf8_acceptRanges)
  let h9 := putC h8 9 #[.iface 133 (.pointer (some ⟨N + 1, 0, none⟩))]
  let h10 := putC h9 10 #[.iface 133 (.pointer (some ⟨N + 2, 0, none⟩))]
  let h11 := putC h10 11 (flat2 Rows.laid_internal_strconv_uint64pow10)
  let h12 := putC h11 12 (flat2 Rows.laid_math_bits_deBruijn32tab)
  { w0 with heap := h12 }
noncomputable abbrev N0 : Nat := (World.settled Tryd.prog default).heap.size
theorem cty : Go.Great.CTypes Tryd.prog 102 124 122 118 21 := ⟨by kernel_rfl, by kernel_rfl, by kernel_rfl, by kernel_rfl, by kernel_rfl, by kernel_rfl, by kernel_rfl, by kernel_rfl, by kernel_rfl⟩
section
variable (os : Os) (args : Array Value)
theorem piece1 : LaidIn Tryd.prog ((laidWorld os).forCall (fun _ _ => 0) ⟨#[], args, []⟩).memory (laidAll.take 10) [12, 1, 11, 8, 10, N0 + 2, 9, N0 + 1, 4, 5, N0, 0, 2] :=
  LaidIn.of_run _ 8 (by kernel_rfl) (by kernel_rfl) (by kernel_rfl) (by kernel_rfl)
theorem piece2 : LaidIn Tryd.prog ((laidWorld os).forCall (fun _ _ => 0) ⟨#[], args, []⟩).memory [("unicode.CaseRanges", .slice (Lib.caseT.map rowData) [])] [6, N0 + 3] :=
  Go.Great.laidIn_case cty (name := "unicode.CaseRanges") (g := 6) (B := N0 + 3) (tg := 102) (tb := 124) Lib.caseT (by kernel_rfl) (by kernel_rfl) (Nat.le_of_ble_eq_true (by kernel_rfl)) rowsWf (by kernel_rfl) (by kernel_rfl) (Nat.ne_of_beq_eq_false (by kernel_rfl))
theorem piece3 : LaidIn Tryd.prog ((laidWorld os).forCall (fun _ _ => 0) ⟨#[], args, []⟩).memory [("unicode/utf8.first", firstData)] [7] :=
  LaidIn.of_run _ 8 (by kernel_rfl) (by kernel_rfl) (by kernel_rfl) (by kernel_rfl)
theorem laid_met : laidMet Tryd.prog laidAll ((laidWorld os).forCall (fun _ _ => 0) ⟨#[], args, []⟩).memory := by
  have h := (((piece1 os args).append (piece2 os args) (by kernel_rfl)).append (piece3 os args) (by kernel_rfl)).met
  have e : laidAll.take 10 ++ [("unicode.CaseRanges", DataW.slice (Lib.caseT.map rowData) [])] ++ [("unicode/utf8.first", firstData)] = laidAll := by
    rw [← Pinned.utf8First_eq]
    show laidAll.take 10 ++ [("unicode.CaseRanges", caseData)] ++ _ = _
    rw [← Pinned.caseRanges_eq]
    rfl
  rw [e] at h
  exact h
theorem world_ok : ((laidWorld os).forCall (fun _ _ => 0) ⟨#[], args, []⟩).variablesRefB Tryd.prog = true := by kernel_rfl
end
end Go.Proofs.YtdoahooadjbgjaaDoor
