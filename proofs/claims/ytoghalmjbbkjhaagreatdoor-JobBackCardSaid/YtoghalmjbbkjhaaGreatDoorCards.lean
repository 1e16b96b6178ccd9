/-
  DERIVED. GIVEN WITH THE SEED: THE CARDS: each row of YtoghalmjbbkjhaaGreatDoorRows.lean that lists a variable, with what it lists TIED to the program's text (the seventh form; the later family's looks); each row that meets fmt, with fmt's text TOLD by the authors' own Lean function (tested against real Go, not proved from fmt's source: count such statements apart). THE CARD IS WHAT COUNTS. Prove the row's statement (the work); the ties are given (YtoghalmjbbkjhaaGreatDoorTie.lean); close each card by the builder's one call (the guide's Derived/Test/ToyasCard.lean, 'card_holds'). Laid BY PROGRAM, IN A SANDBOX (cutbox-door.mjs). By AI agents, Wed Nov 11 2026. No macro, syntax, notation, axiom, sorry.
-/
import Derived.Test.YtoghalmjbbkjhaaGreatDoorRows
import GoSem.ClaimSeven
namespace Go.Proofs.YtoghalmjbbkjhaaGreatDoor
namespace Rows

/-- THE TIED CARD OF 'ringerlaw14.JobFires'. -/
def jobFiresCard : Claim7 := { stood := { row := jobFiresRow, standIns := [], harness := (true, "2f3133dc0cadd2698f37856257193589f41831a42cf0378441749118e819c20f"), looks := true }, kinds := [], alts := [], laidByText := true, laidKinds := [.data, .data, .data, .data, .data, .sentinel, .sentinel, .data, .data, .data, .data, .data, .pinned, .pinned], laidTests := true, laidLooks := .later }
def JobFiresCardSaid : Prop := Claim7.holds Tryz.pinned (.plain (OpenSpec.ofChange jobFiresSpec)) jobFiresCard

/-- THE TIED CARD OF 'ringerlaw14.JobBack'. -/
def jobBackCard : Claim7 := { stood := { row := jobBackRow, standIns := [], harness := (true, "2f3133dc0cadd2698f37856257193589f41831a42cf0378441749118e819c20f"), looks := true }, kinds := [], alts := [], laidByText := true, laidKinds := [.data, .data, .data, .data, .data, .sentinel, .sentinel, .data, .data, .data, .data, .data, .pinned, .pinned], laidTests := true, laidLooks := .later }
def JobBackCardSaid : Prop := Claim7.holds Tryz.pinned (.plain (OpenSpec.ofChange jobBackSpec)) jobBackCard

/-- THE SECOND FORM's CARD OF 'ringerlaw14.JobFires'. -/
def jobFiresUptoCard : Claim7 := { stood := { row := jobFiresUptoRow, standIns := [], harness := (true, "2f3133dc0cadd2698f37856257193589f41831a42cf0378441749118e819c20f"), looks := true }, kinds := [], alts := [], laidByText := true, laidKinds := [.data, .data, .data, .data, .data, .sentinel, .sentinel, .data, .data, .data, .data, .data, .pinned, .pinned], laidTests := true, laidLooks := .later }
def JobFiresUptoCardSaid : Prop := Claim7.holds Tryz.pinned (.plain (OpenSpec.upto jobFiresSpec)) jobFiresUptoCard

/-- THE SECOND FORM's CARD OF 'ringerlaw14.JobBack'. -/
def jobBackUptoCard : Claim7 := { stood := { row := jobBackUptoRow, standIns := [], harness := (true, "2f3133dc0cadd2698f37856257193589f41831a42cf0378441749118e819c20f"), looks := true }, kinds := [], alts := [], laidByText := true, laidKinds := [.data, .data, .data, .data, .data, .sentinel, .sentinel, .data, .data, .data, .data, .data, .pinned, .pinned], laidTests := true, laidLooks := .later }
def JobBackUptoCardSaid : Prop := Claim7.holds Tryz.pinned (.plain (OpenSpec.upto jobBackSpec)) jobBackUptoCard
end Rows
end Go.Proofs.YtoghalmjbbkjhaaGreatDoor
