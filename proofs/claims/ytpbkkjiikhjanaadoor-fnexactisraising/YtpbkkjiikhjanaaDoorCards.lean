/-
  DERIVED. GIVEN WITH THE SEED: THE CARDS: each row of YtpbkkjiikhjanaaDoorRows.lean that lists a variable, with what it lists TIED to the program's text (the seventh form; the later family's looks); each row that meets fmt, with fmt's text TOLD by the authors' own Lean function (tested against real Go, not proved from fmt's source: count such statements apart). THE CARD IS WHAT COUNTS. Prove the row's statement (the work); the ties are given (YtpbkkjiikhjanaaDoorTie.lean); close each card by the builder's one call (the guide's Derived/Test/ToyasCard.lean, 'card_holds'). Laid BY PROGRAM, IN A SANDBOX (cutbox-door.mjs). By AI agents, Wed Nov 11 2026. No macro, syntax, notation, axiom, sorry.
-/
import Derived.Test.YtpbkkjiikhjanaaDoorRows
import GoSem.ClaimSeven
namespace Go.Proofs.YtpbkkjiikhjanaaDoor
namespace Rows

/-- THE TIED CARD OF 'laws.FnExactIsRaising'. -/
def fnExactIsRaisingCard : Claim7 := { stood := { row := fnExactIsRaisingRow, standIns := [], harness := (true, "fa5d4ec3cfc973258c8f08e0a716cf8e1bf9f6540da70f41bb7019acca83659d"), looks := false }, kinds := [], alts := [], laidByText := true, laidKinds := [.data], laidTests := true, laidLooks := .later }
def FnExactIsRaisingCardSaid : Prop := Claim7.holds Tryd.pinned (.plain (OpenSpec.ofChange fnExactIsRaisingSpec)) fnExactIsRaisingCard

/-- THE SECOND FORM's CARD OF 'laws.FnExactIsRaising'. -/
def fnExactIsRaisingUptoCard : Claim7 := { stood := { row := fnExactIsRaisingUptoRow, standIns := [], harness := (true, "fa5d4ec3cfc973258c8f08e0a716cf8e1bf9f6540da70f41bb7019acca83659d"), looks := false }, kinds := [], alts := [], laidByText := true, laidKinds := [.data], laidTests := true, laidLooks := .later }
def FnExactIsRaisingUptoCardSaid : Prop := Claim7.holds Tryd.pinned (.plain (OpenSpec.upto fnExactIsRaisingSpec)) fnExactIsRaisingUptoCard
end Rows
end Go.Proofs.YtpbkkjiikhjanaaDoor
