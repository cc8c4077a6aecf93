/-
  DERIVED. GIVEN WITH THE SEED: THE CARDS: each row of YtkfdehmmhgcapaaDoorRows.lean that lists a variable, with what it lists TIED to the program's text (the seventh form; the later family's looks); each row that meets fmt, with fmt's text TOLD by the authors' own Lean function (tested against real Go, not proved from fmt's source: count such statements apart). THE CARD IS WHAT COUNTS. Prove the row's statement (the work); the ties are given (YtkfdehmmhgcapaaDoorTie.lean); close each card by the builder's one call (the guide's Derived/Test/ToyasCard.lean, 'card_holds'). Laid BY PROGRAM, IN A SANDBOX (cutbox-door.mjs). By AI agents, Wed Nov 11 2026. No macro, syntax, notation, axiom, sorry.
-/
import Derived.Test.YtkfdehmmhgcapaaDoorRows
import GoSem.ClaimSeven
namespace Go.Proofs.YtkfdehmmhgcapaaDoor
namespace Rows

/-- THE TIED CARD OF 'laws.FnExactHeightsOf'. -/
def fnExactHeightsOfCard : Claim7 := { stood := { row := fnExactHeightsOfRow, standIns := [], harness := (true, "b5c63ecb6edd9217acf1ddd929d195f967b10f60a943389a58b174ad99bf95c7"), looks := false }, kinds := [], alts := [], laidByText := true, laidKinds := [.data], laidTests := true, laidLooks := .later }
def FnExactHeightsOfCardSaid : Prop := Claim7.holds Tryd.pinned (.plain (OpenSpec.ofChange fnExactHeightsOfSpec)) fnExactHeightsOfCard

/-- THE TIED CARD OF 'laws.FnExactGoodCode'. -/
def fnExactGoodCodeCard : Claim7 := { stood := { row := fnExactGoodCodeRow, standIns := [], harness := (true, "b5c63ecb6edd9217acf1ddd929d195f967b10f60a943389a58b174ad99bf95c7"), looks := false }, kinds := [], alts := [], laidByText := true, laidKinds := [.data], laidTests := true, laidLooks := .later }
def FnExactGoodCodeCardSaid : Prop := Claim7.holds Tryd.pinned (.plain (OpenSpec.ofChange fnExactGoodCodeSpec)) fnExactGoodCodeCard

/-- THE TIED CARD OF 'laws.FnExactGoodImage'. -/
def fnExactGoodImageCard : Claim7 := { stood := { row := fnExactGoodImageRow, standIns := [], harness := (true, "b5c63ecb6edd9217acf1ddd929d195f967b10f60a943389a58b174ad99bf95c7"), looks := false }, kinds := [], alts := [], laidByText := true, laidKinds := [.data], laidTests := true, laidLooks := .later }
def FnExactGoodImageCardSaid : Prop := Claim7.holds Tryd.pinned (.plain (OpenSpec.ofChange fnExactGoodImageSpec)) fnExactGoodImageCard

/-- THE SECOND FORM's CARD OF 'laws.FnExactHeightsOf'. -/
def fnExactHeightsOfUptoCard : Claim7 := { stood := { row := fnExactHeightsOfUptoRow, standIns := [], harness := (true, "b5c63ecb6edd9217acf1ddd929d195f967b10f60a943389a58b174ad99bf95c7"), looks := false }, kinds := [], alts := [], laidByText := true, laidKinds := [.data], laidTests := true, laidLooks := .later }
def FnExactHeightsOfUptoCardSaid : Prop := Claim7.holds Tryd.pinned (.plain (OpenSpec.upto fnExactHeightsOfSpec)) fnExactHeightsOfUptoCard

/-- THE SECOND FORM's CARD OF 'laws.FnExactGoodCode'. -/
def fnExactGoodCodeUptoCard : Claim7 := { stood := { row := fnExactGoodCodeUptoRow, standIns := [], harness := (true, "b5c63ecb6edd9217acf1ddd929d195f967b10f60a943389a58b174ad99bf95c7"), looks := false }, kinds := [], alts := [], laidByText := true, laidKinds := [.data], laidTests := true, laidLooks := .later }
def FnExactGoodCodeUptoCardSaid : Prop := Claim7.holds Tryd.pinned (.plain (OpenSpec.upto fnExactGoodCodeSpec)) fnExactGoodCodeUptoCard

/-- THE SECOND FORM's CARD OF 'laws.FnExactGoodImage'. -/
def fnExactGoodImageUptoCard : Claim7 := { stood := { row := fnExactGoodImageUptoRow, standIns := [], harness := (true, "b5c63ecb6edd9217acf1ddd929d195f967b10f60a943389a58b174ad99bf95c7"), looks := false }, kinds := [], alts := [], laidByText := true, laidKinds := [.data], laidTests := true, laidLooks := .later }
def FnExactGoodImageUptoCardSaid : Prop := Claim7.holds Tryd.pinned (.plain (OpenSpec.upto fnExactGoodImageSpec)) fnExactGoodImageUptoCard
end Rows
end Go.Proofs.YtkfdehmmhgcapaaDoor
