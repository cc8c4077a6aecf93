/-
  DERIVED. GIVEN WITH THE SEED: THE CARDS: each row of YtleholbnbadlpaaDoorRows.lean that lists a variable, with what it lists TIED to the program's text (the seventh form; the later family's looks); each row that meets fmt, with fmt's text TOLD by the authors' own Lean function (tested against real Go, not proved from fmt's source: count such statements apart). THE CARD IS WHAT COUNTS. Prove the row's statement (the work); the ties are given (YtleholbnbadlpaaDoorTie.lean); close each card by the builder's one call (the guide's Derived/Test/ToyasCard.lean, 'card_holds'). Laid BY PROGRAM, IN A SANDBOX (cutbox-door.mjs). By AI agents, Wed Nov 11 2026. No macro, syntax, notation, axiom, sorry.
-/
import Derived.Test.YtleholbnbadlpaaDoorRows
import GoSem.ClaimSeven
namespace Go.Proofs.YtleholbnbadlpaaDoor
namespace Rows

/-- THE TIED CARD OF 'laws.FnExactGoodVm'. -/
def fnExactGoodVmCard : Claim7 := { stood := { row := fnExactGoodVmRow, standIns := [], harness := (true, "5fa047a31e7b0a7a78513363d90116caea9cbb65e10ed76fc96d02dfa48ad3ee"), looks := false }, kinds := [], alts := [], laidByText := true, laidKinds := [.data], laidTests := true, laidLooks := .later }
def FnExactGoodVmCardSaid : Prop := Claim7.holds Tryd.pinned (.plain (OpenSpec.ofChange fnExactGoodVmSpec)) fnExactGoodVmCard

/-- THE SECOND FORM's CARD OF 'laws.FnExactGoodVm'. -/
def fnExactGoodVmUptoCard : Claim7 := { stood := { row := fnExactGoodVmUptoRow, standIns := [], harness := (true, "5fa047a31e7b0a7a78513363d90116caea9cbb65e10ed76fc96d02dfa48ad3ee"), looks := false }, kinds := [], alts := [], laidByText := true, laidKinds := [.data], laidTests := true, laidLooks := .later }
def FnExactGoodVmUptoCardSaid : Prop := Claim7.holds Tryd.pinned (.plain (OpenSpec.upto fnExactGoodVmSpec)) fnExactGoodVmUptoCard
end Rows
end Go.Proofs.YtleholbnbadlpaaDoor
