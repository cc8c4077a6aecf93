/-
  DERIVED. GIVEN WITH THE SEED: THE CARDS: each row of YtcpjddkhclaafaaDoorRows.lean that lists a variable, with what it lists TIED to the program's text (the seventh form; the later family's looks); each row that meets fmt, with fmt's text TOLD by the authors' own Lean function (tested against real Go, not proved from fmt's source: count such statements apart). THE CARD IS WHAT COUNTS. Prove the row's statement (the work); the ties are given (YtcpjddkhclaafaaDoorTie.lean); close each card by the builder's one call (the guide's Derived/Test/ToyasCard.lean, 'card_holds'). Laid BY PROGRAM, IN A SANDBOX (cutbox-door.mjs). By AI agents, Wed Nov 11 2026. No macro, syntax, notation, axiom, sorry.
-/
import Derived.Test.YtcpjddkhclaafaaDoorRows
import GoSem.ClaimSeven
namespace Go.Proofs.YtcpjddkhclaafaaDoor
namespace Rows

/-- THE TIED CARD OF 'laws.FnExactNewVm'. -/
def fnExactNewVmCard : Claim7 := { stood := { row := fnExactNewVmRow, standIns := [], harness := (true, "d7a9b088410b0fe21168e14512b9e5e9b1d019cdb651ff7a05686b60a74f7cd2"), looks := false }, kinds := [], alts := [], laidByText := true, laidKinds := [.data], laidTests := true, laidLooks := .later }
def FnExactNewVmCardSaid : Prop := Claim7.holds Tryd.pinned (.plain (OpenSpec.ofChange fnExactNewVmSpec)) fnExactNewVmCard

/-- THE SECOND FORM's CARD OF 'laws.FnExactNewVm'. -/
def fnExactNewVmUptoCard : Claim7 := { stood := { row := fnExactNewVmUptoRow, standIns := [], harness := (true, "d7a9b088410b0fe21168e14512b9e5e9b1d019cdb651ff7a05686b60a74f7cd2"), looks := false }, kinds := [], alts := [], laidByText := true, laidKinds := [.data], laidTests := true, laidLooks := .later }
def FnExactNewVmUptoCardSaid : Prop := Claim7.holds Tryd.pinned (.plain (OpenSpec.upto fnExactNewVmSpec)) fnExactNewVmUptoCard
end Rows
end Go.Proofs.YtcpjddkhclaafaaDoor
