/-
  DERIVED. GIVEN WITH THE SEED: THE CARDS: each row of YtfdijeeilfhjeaaDoorRows.lean that lists a variable, with what it lists TIED to the program's text (the seventh form; the later family's looks); each row that meets fmt, with fmt's text TOLD by the authors' own Lean function (tested against real Go, not proved from fmt's source: count such statements apart). THE CARD IS WHAT COUNTS. Prove the row's statement (the work); the ties are given (YtfdijeeilfhjeaaDoorTie.lean); close each card by the builder's one call (the guide's Derived/Test/ToyasCard.lean, 'card_holds'). Laid BY PROGRAM, IN A SANDBOX (cutbox-door.mjs). By AI agents, Wed Nov 11 2026. No macro, syntax, notation, axiom, sorry.
-/
import Derived.Test.YtfdijeeilfhjeaaDoorRows
import GoSem.ClaimSeven
namespace Go.Proofs.YtfdijeeilfhjeaaDoor
namespace Rows

/-- THE TIED CARD OF 'laws.FnExactLowerExpr'. -/
def fnExactLowerExprCard : Claim7 := { stood := { row := fnExactLowerExprRow, standIns := [], harness := (true, "fcaf541e57cdbd6b91a91835cd40f18465b8483ca1fef9edc1110d06b4d88874"), looks := false }, kinds := [], alts := [], laidByText := true, laidKinds := [.data, .data, .data, .data], laidTests := true, laidLooks := .later }
def FnExactLowerExprCardSaid : Prop := Claim7.holds Tryd.pinned (.plain (OpenSpec.ofChange fnExactLowerExprSpec)) fnExactLowerExprCard

/-- THE SECOND FORM's CARD OF 'laws.FnExactLowerExpr'. -/
def fnExactLowerExprUptoCard : Claim7 := { stood := { row := fnExactLowerExprUptoRow, standIns := [], harness := (true, "fcaf541e57cdbd6b91a91835cd40f18465b8483ca1fef9edc1110d06b4d88874"), looks := false }, kinds := [], alts := [], laidByText := true, laidKinds := [.data, .data, .data, .data], laidTests := true, laidLooks := .later }
def FnExactLowerExprUptoCardSaid : Prop := Claim7.holds Tryd.pinned (.plain (OpenSpec.upto fnExactLowerExprSpec)) fnExactLowerExprUptoCard
end Rows
end Go.Proofs.YtfdijeeilfhjeaaDoor
