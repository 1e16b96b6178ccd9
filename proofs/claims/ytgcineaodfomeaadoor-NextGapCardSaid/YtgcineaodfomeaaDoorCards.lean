/-
  DERIVED. GIVEN WITH THE SEED: THE CARDS: each row of YtgcineaodfomeaaDoorRows.lean that lists a variable, with what it lists TIED to the program's text (the seventh form; the later family's looks); each row that meets fmt, with fmt's text TOLD by the authors' own Lean function (tested against real Go, not proved from fmt's source: count such statements apart). THE CARD IS WHAT COUNTS. Prove the row's statement (the work); the ties are given (YtgcineaodfomeaaDoorTie.lean); close each card by the builder's one call (the guide's Derived/Test/ToyasCard.lean, 'card_holds'). Laid BY PROGRAM, IN A SANDBOX (cutbox-door.mjs). By AI agents, Wed Nov 11 2026. No macro, syntax, notation, axiom, sorry.
-/
import Derived.Test.YtgcineaodfomeaaDoorRows
import GoSem.ClaimSeven
namespace Go.Proofs.YtgcineaodfomeaaDoor
namespace Rows

/-- THE TIED CARD OF 'ringerlaw08.NextFires'. -/
def nextFiresCard : Claim7 := { stood := { row := nextFiresRow, standIns := [], harness := (true, "9dd60659218617181478c2eb2df2383af0e0c035fd2462d18932eee9281f19af"), looks := false }, kinds := [], alts := [], laidByText := true, laidKinds := [.data, .data], laidTests := true, laidLooks := .later }
def NextFiresCardSaid : Prop := Claim7.holds Tryd.pinned (.plain (OpenSpec.ofChange nextFiresSpec)) nextFiresCard

/-- THE TIED CARD OF 'ringerlaw08.NextGap'. -/
def nextGapCard : Claim7 := { stood := { row := nextGapRow, standIns := [], harness := (true, "9dd60659218617181478c2eb2df2383af0e0c035fd2462d18932eee9281f19af"), looks := false }, kinds := [], alts := [], laidByText := true, laidKinds := [.data, .data], laidTests := true, laidLooks := .later }
def NextGapCardSaid : Prop := Claim7.holds Tryd.pinned (.plain (OpenSpec.ofChange nextGapSpec)) nextGapCard

/-- THE SECOND FORM's CARD OF 'ringerlaw08.NextFires'. -/
def nextFiresUptoCard : Claim7 := { stood := { row := nextFiresUptoRow, standIns := [], harness := (true, "9dd60659218617181478c2eb2df2383af0e0c035fd2462d18932eee9281f19af"), looks := false }, kinds := [], alts := [], laidByText := true, laidKinds := [.data, .data], laidTests := true, laidLooks := .later }
def NextFiresUptoCardSaid : Prop := Claim7.holds Tryd.pinned (.plain (OpenSpec.upto nextFiresSpec)) nextFiresUptoCard

/-- THE SECOND FORM's CARD OF 'ringerlaw08.NextGap'. -/
def nextGapUptoCard : Claim7 := { stood := { row := nextGapUptoRow, standIns := [], harness := (true, "9dd60659218617181478c2eb2df2383af0e0c035fd2462d18932eee9281f19af"), looks := false }, kinds := [], alts := [], laidByText := true, laidKinds := [.data, .data], laidTests := true, laidLooks := .later }
def NextGapUptoCardSaid : Prop := Claim7.holds Tryd.pinned (.plain (OpenSpec.upto nextGapSpec)) nextGapUptoCard
end Rows
end Go.Proofs.YtgcineaodfomeaaDoor
