/-
  NARROWER THAN 'FOR EVERY INPUT', by the rows' own cells (each row's printed sentence says how): NextFires: laid · NextGap: laid.
  DERIVED. THE GIVEN ROWS OF THIS SEAT. 2 by the template 'for every input the law returns true; each argument reads behind the call as it read before'; 0 by the template 'total and deterministic' (their statements: YtgcineaodfomeaaDoorTotals.lean).
  GIVEN WITH THE SEED: the statements are not yours to turn. If you find one false, say at which input.
  Laid BY PROGRAM, IN A SANDBOX (cutbox-rows.mjs): the forced cells as the released guide's own fill.sh prints them over the translation 6bdf95509a04ac49… (all of the seat's roots in one cut). By AI agents, Wed Nov 11 2026. No macro, syntax, notation, axiom, sorry.
-/
import Derived.Test.YtgcineaodfomeaaDoorChecked
import GoSem.Claim
import GoSem.ClaimJoined
import GoSem.ClaimMapViews
import Derived.JoinedTies
import Derived.KernelRfl
namespace Go.Proofs.YtgcineaodfomeaaDoor
/- THE CELL 'sum', in the pinned program and in every row, IS THE sha256 OF THE DUMP (.gsa) THAT YtgcineaodfomeaaDoorProg.lean LOADS. Nothing in Lean hashes anything: it is a label: what it is worth is what the hold of that sum in a sandbox is worth. -/
noncomputable def Tryd.pinned : Pinned := { name := "ytgcineaodfomeaadoor", sum := "6bdf95509a04ac4906b38dc2072f8c4a5234642f39bed300b800c168e05879e9", checked := Tryd.checked }
namespace Rows
def none {H : Type} : Left H := { results := [], args := [] }

/- WHAT THE LISTED PACKAGE-LEVEL VARIABLES READ AS WHEN THE CALL BEGINS. Each datum BY PROGRAM (the guide's laid-datum.mjs) off the statement by which the dump's own 'gosem.cut.vars' lays the variable. In a bare row this is a premise. The card (YtgcineaodfomeaaDoorCards.lean) ties it to the program's text. -/
def laid_ringer_civil_months {H : Type} : DataW H := .agg [.lit (.int .i64 31), .lit (.int .i64 28), .lit (.int .i64 31), .lit (.int .i64 30), .lit (.int .i64 31), .lit (.int .i64 30), .lit (.int .i64 31), .lit (.int .i64 31), .lit (.int .i64 30), .lit (.int .i64 31), .lit (.int .i64 30), .lit (.int .i64 31)]
def laid_ringer_field_bounds {H : Type} : DataW H := .agg [.agg [.lit (.int .i64 0), .lit (.int .i64 59)], .agg [.lit (.int .i64 0), .lit (.int .i64 23)], .agg [.lit (.int .i64 1), .lit (.int .i64 31)], .agg [.lit (.int .i64 1), .lit (.int .i64 12)], .agg [.lit (.int .i64 0), .lit (.int .i64 6)]]

/-- 'ringerlaw08.NextFires': WHATEVER THE INPUT: true; the input reads as it did. -/
def nextFiresSpec : ChangeSpec := { name := "nextFires", fn := fun _ => fun
  | [d1, d2] => { results := [.lit (.bool true)], args := [d1, d2] }
  | _ => none }
def nextFiresRow : OpenClaim := { program := "ytgcineaodfomeaadoor", sum := "6bdf95509a04ac4906b38dc2072f8c4a5234642f39bed300b800c168e05879e9", func := "ringer/ringerlaw08.NextFires", spec := "nextFires", unfollowed := true, recurses := true, named := ["ringer/field.bounds", "ringer/civil.months"], apart := false, laid := [("ringer/civil.months", laid_ringer_civil_months), ("ringer/field.bounds", laid_ringer_field_bounds)] }
def NextFiresSaid : Prop := nextFiresRow.holds Tryd.pinned (OpenSpec.ofChange nextFiresSpec)

/-- ITS FALSE NEIGHBOUR: 'it returns false'. Refute it at one input. -/
def nextFiresWrong : ChangeSpec := { name := "nextFires", fn := fun _ => fun
  | [d1, d2] => { results := [.lit (.bool false)], args := [d1, d2] }
  | _ => none }
def NextFiresWrongFalsely : Prop := nextFiresRow.holds Tryd.pinned (OpenSpec.ofChange nextFiresWrong)

/-- 'ringerlaw08.NextGap': WHATEVER THE INPUT: true; the input reads as it did. -/
def nextGapSpec : ChangeSpec := { name := "nextGap", fn := fun _ => fun
  | [d1, d2, d3] => { results := [.lit (.bool true)], args := [d1, d2, d3] }
  | _ => none }
def nextGapRow : OpenClaim := { program := "ytgcineaodfomeaadoor", sum := "6bdf95509a04ac4906b38dc2072f8c4a5234642f39bed300b800c168e05879e9", func := "ringer/ringerlaw08.NextGap", spec := "nextGap", unfollowed := true, recurses := true, named := ["ringer/field.bounds", "ringer/civil.months"], apart := false, laid := [("ringer/civil.months", laid_ringer_civil_months), ("ringer/field.bounds", laid_ringer_field_bounds)] }
def NextGapSaid : Prop := nextGapRow.holds Tryd.pinned (OpenSpec.ofChange nextGapSpec)

/-- ITS FALSE NEIGHBOUR: 'it returns false'. Refute it at one input. -/
def nextGapWrong : ChangeSpec := { name := "nextGap", fn := fun _ => fun
  | [d1, d2, d3] => { results := [.lit (.bool false)], args := [d1, d2, d3] }
  | _ => none }
def NextGapWrongFalsely : Prop := nextGapRow.holds Tryd.pinned (OpenSpec.ofChange nextGapWrong)

/- THE SECOND FORM. 'bulk': how many values and letters a reading holds, each counted each time it is reached (what is shared counts as often as it is met; a slice's spare places count too). A statement '..UptoSaid' is the law's where the arguments, and the package variables that the reading takes, are together of bulk at most 1048576: NARROWER than '..Said'. Prove '..Said' where nothing that the law and all that it calls make is longer than what came in: it says more and counts as full. Else prove '..UptoSaid'. A law counts once. -/
mutual
def uptoBulk {H : Type} : DataW H → Nat
  | .lit (.string bytes) => bytes.length + 1
  | .lit _ => 1
  | .nil => 1
  | .ptr d => uptoBulk d + 1
  | .slice elems spare => uptoBulkAll elems + uptoBulkAll spare + 1
  | .agg parts => uptoBulkAll parts + 1
  | .iface _ d => uptoBulk d + 1
  | .map entries => uptoBulkEntries entries + 1
  | .held _ => 1
def uptoBulkAll {H : Type} : List (DataW H) → Nat
  | [] => 0
  | d :: r => uptoBulk d + uptoBulkAll r
def uptoBulkEntries {H : Type} : List (Lit × DataW H) → Nat
  | [] => 0
  | x :: r => uptoBulkEntry x + uptoBulkEntries r
def uptoBulkEntry {H : Type} : Lit × DataW H → Nat
  | (.string bytes, d) => bytes.length + uptoBulk d + 1
  | (_, d) => uptoBulk d + 1
 end
def uptoSmall : (H : Type) → List (DataW H) → Bool := fun _ ds => decide (uptoBulkAll ds ≤ 1048576)
def OpenSpec.upto (s : _root_.Go.ChangeSpec) : _root_.Go.OpenSpec := { _root_.Go.OpenSpec.ofChange s with cond := some uptoSmall }

/-- 'ringerlaw08.NextFires', WHERE WHAT IT READS IS OF BULK AT MOST 1048576: true; the input reads as it did. -/
def nextFiresUptoRow : OpenClaim := { program := "ytgcineaodfomeaadoor", sum := "6bdf95509a04ac4906b38dc2072f8c4a5234642f39bed300b800c168e05879e9", func := "ringer/ringerlaw08.NextFires", spec := "nextFires", unfollowed := true, recurses := true, named := ["ringer/field.bounds", "ringer/civil.months"], apart := false, laid := [("ringer/civil.months", laid_ringer_civil_months), ("ringer/field.bounds", laid_ringer_field_bounds)], narrowed := true }
def NextFiresUptoSaid : Prop := nextFiresUptoRow.holds Tryd.pinned (OpenSpec.upto nextFiresSpec)

/-- 'ringerlaw08.NextGap', WHERE WHAT IT READS IS OF BULK AT MOST 1048576: true; the input reads as it did. -/
def nextGapUptoRow : OpenClaim := { program := "ytgcineaodfomeaadoor", sum := "6bdf95509a04ac4906b38dc2072f8c4a5234642f39bed300b800c168e05879e9", func := "ringer/ringerlaw08.NextGap", spec := "nextGap", unfollowed := true, recurses := true, named := ["ringer/field.bounds", "ringer/civil.months"], apart := false, laid := [("ringer/civil.months", laid_ringer_civil_months), ("ringer/field.bounds", laid_ringer_field_bounds)], narrowed := true }
def NextGapUptoSaid : Prop := nextGapUptoRow.holds Tryd.pinned (OpenSpec.upto nextGapSpec)

end Rows
end Go.Proofs.YtgcineaodfomeaaDoor
