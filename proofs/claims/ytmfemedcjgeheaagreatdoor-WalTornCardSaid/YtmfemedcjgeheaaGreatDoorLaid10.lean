/- Stage 10's list of tables: what the rows' list gives; a world for the witness; an entry that comes in. -/
import Derived.Test.YtmfemedcjgeheaaGreatDoorSegName
import Derived.Test.YtmfemedcjgeheaaGreatDoorCards
import Derived.Test.YtmfemedcjgeheaaGreatDoorTie
import Derived.LaidLaws
import Derived.Stop.LaidErr
import Derived.Shelf.Vars
import Derived.LaidSub
import Derived.Lib.LaidTab
import Derived.Lib.LaidIn
import Derived.Deep.DeepHandedRow
import Derived.Deep.DeepWitnessRowRef
import Derived.ProofKit
import Derived.WalkKit
import Derived.OpenShut
import Derived.Lib.SmallJoins
import Derived.SevenTiedAt
namespace Go.Proofs.YtmfemedcjgeheaaGreatDoor
open Go.ChangeShapes Go.WideShapes Go.RowKit Go.Lib

def laidAll : List (String × DataW Unit) := [("math/bits.deBruijn32tab", Rows.laid_math_bits_deBruijn32tab), ("math/bits.deBruijn64tab", Rows.laid_math_bits_deBruijn64tab), ("internal/strconv.uint64pow10", Rows.laid_internal_strconv_uint64pow10), ("strconv.ErrRange", Rows.laid_strconv_ErrRange), ("strconv.ErrSyntax", Rows.laid_strconv_ErrSyntax)]
theorem starE : "*" ++ "errors.errorString" = "*errors.errorString" := by decide
theorem rowE (u : TypeId) (h : Tryz.prog.typeName? 3 u = some "*errors.errorString") : u = 227 :=
  typeName_ptr_named (nm := "errors.errorString") (by rw [starE]; kernel_rfl) (by kernel_rfl) (by decide) u (by rw [starE]; exact h)
theorem cellsPE : Tryz.prog.cellsOf 227 = 1 := by kernel_rfl
theorem cellsES : Tryz.prog.cellsOf 229 = 1 := by kernel_rfl
theorem tabs_met {W : World} (h0 : laidMetH Tryz.prog laidAll W) : Tabs 3 W ∧ 3 ≤ W.heap.size := by
  have h : laidMet Tryz.prog laidAll W := h0
  have h1 := h0.filter (fun x => x.1 == "internal/strconv.uint64pow10")
  rw [show laidAll.filter (fun x => x.1 == "internal/strconv.uint64pow10") = [("internal/strconv.uint64pow10", Rows.laid_internal_strconv_uint64pow10)] by kernel_rfl] at h1
  have ht : Lib.TabIs Tryz.prog W "internal/strconv.uint64pow10" .u64 Lib.pow10Tab := Lib.tabIs_of_head (rest := []) (show Tryz.prog.globalNamed "internal/strconv.uint64pow10" = some 2 by kernel_rfl) (show (Tryz.prog.globals[2]?).map (·.type) = some 221 by kernel_rfl) Tryz.underlying221 Tryz.underlying37 (by kernel_rfl) (show Tryz.prog.cellsOf 221 = 20 by kernel_rfl) h1
  have hc := ht.cell (show Tryz.prog.globalNamed "internal/strconv.uint64pow10" = some 2 by kernel_rfl) 0 (by decide)
  have hlt : 2 < W.heap.size := lt_of_cell hc
  have h2 := h0.filter (fun x => x.1 == "strconv.ErrSyntax")
  rw [show laidAll.filter (fun x => x.1 == "strconv.ErrSyntax") = [("strconv.ErrSyntax", Rows.laid_strconv_ErrSyntax)] by kernel_rfl] at h2
  have gE : Tryz.prog.globalNamed "strconv.ErrSyntax" = some 0 := by kernel_rfl
  obtain ⟨a1, s1, hv1, -, -, -⟩ := laid_sentinel h2 gE (show (Tryz.prog.globals[0]?).map (·.type) = some 132 by kernel_rfl) Tryz.underlying132 rowE Tryz.underlying227 Tryz.underlying229 rfl rfl Tryz.underlying9 (by kernel_rfl) (by kernel_rfl)
  exact ⟨⟨Nat.le_refl _, ⟨a1, by simpa using World.var?_cell gE hv1 0⟩, ht⟩, hlt⟩

theorem ownLaid : ownKnob Tryz.prog.godebug = none := by kernel_rfl
def flat0 (d : DataW Unit) : List Value :=
  match d with
  | .lit (.int k z) => [.int k z]
  | .lit (.string s) => [.string ⟨s.toArray⟩]
  | _ => []
def flat1 (d : DataW Unit) : List Value :=
  match d with
  | .agg l => l.flatMap flat0
  | d => flat0 d
def flat2 (d : DataW Unit) : Array Value :=
  match d with
  | .agg l => (l.flatMap flat1).toArray
  | .slice l _ => (l.flatMap flat1).toArray
  | _ => #[]
def errText (d : DataW Unit) : Array Value :=
  match d with
  | .iface _ (.ptr d) => (flat1 d).toArray
  | _ => #[]
def putC (h : Array Obj) (g : Nat) (cs : Array Value) : Array Obj := h.modify g fun
  | .cells _ t frozen => .cells cs t frozen
  | o => o
noncomputable def laidWorld (os : Os) : World :=
  let N := (World.settled Tryz.prog os).heap.size
  let w0 := World.holding Tryz.prog os ⟨#[.cells (errText Rows.laid_strconv_ErrSyntax) 229, .cells (errText Rows.laid_strconv_ErrRange) 229], #[], []⟩
  let h0 := putC w0.heap 5 (flat2 Rows.laid_math_bits_deBruijn64tab)
  let h1 := putC h0 0 #[.iface 227 (.pointer (some ⟨N, 0, none⟩))]
  let h2 := putC h1 1 #[.iface 227 (.pointer (some ⟨N + 1, 0, none⟩))]
  let h3 := putC h2 2 (flat2 Rows.laid_internal_strconv_uint64pow10)
  let h4 := putC h3 4 (flat2 Rows.laid_math_bits_deBruijn32tab)
  { w0 with heap := h4 }
noncomputable abbrev N0 : Nat := (World.settled Tryz.prog default).heap.size
section
variable (os : Os) (args : Array Value)
theorem piece1 : LaidIn Tryz.prog ((laidWorld os).forCall (fun _ _ => 0) ⟨#[], args, []⟩).memory laidAll [4, 5, 2, 1, N0 + 1, 0, N0] :=
  LaidIn.of_run _ 8 (by kernel_rfl) (by kernel_rfl) (by kernel_rfl) (by kernel_rfl)
theorem laid_met : laidMet Tryz.prog laidAll ((laidWorld os).forCall (fun _ _ => 0) ⟨#[], args, []⟩).memory := (piece1 os args).met
theorem world_ok : ((laidWorld os).forCall (fun _ _ => 0) ⟨#[], args, []⟩).variablesRefB Tryz.prog = true := by kernel_rfl
end
end Go.Proofs.YtmfemedcjgeheaaGreatDoor
