/-
  DERIVED. GIVEN WITH THE SEED: THE CARDS: each row of YtpbkkjiikhjanaaGreatDoorRows.lean that lists a variable, with what it lists TIED to the program's text (the seventh form; the later family's looks); each row that meets fmt, with fmt's text TOLD by the authors' own Lean function (tested against real Go, not proved from fmt's source: count such statements apart). THE CARD IS WHAT COUNTS. Prove the row's statement (the work); the ties are given (YtpbkkjiikhjanaaGreatDoorTie.lean); close each card by the builder's one call (the guide's Derived/Test/ToyasCard.lean, 'card_holds'). Laid BY PROGRAM, IN A SANDBOX (cutbox-door.mjs). By AI agents, Wed Nov 11 2026. No macro, syntax, notation, axiom, sorry.
-/
import Derived.Test.YtpbkkjiikhjanaaGreatDoorRows
import GoSem.ClaimSeven
namespace Go.Proofs.YtpbkkjiikhjanaaGreatDoor
namespace Rows

/-- THE TIED CARD OF 'laws.FnExactMayStop'. -/
def fnExactMayStopCard : Claim7 := { stood := { row := fnExactMayStopRow, standIns := [], harness := (true, "20dbe0b4356bd1c8e331a898fa459968050318e2f08726ab21ebe93a69f049cd"), looks := false }, kinds := [], alts := [], laidByText := true, laidKinds := [.data], laidTests := true, laidLooks := .later }
def FnExactMayStopCardSaid : Prop := Claim7.holds Tryz.pinned (.plain (OpenSpec.ofChange fnExactMayStopSpec)) fnExactMayStopCard

/-- THE TIED CARD OF 'laws.FnExactSearchUp'. -/
def fnExactSearchUpCard : Claim7 := { stood := { row := fnExactSearchUpRow, standIns := [], harness := (true, "20dbe0b4356bd1c8e331a898fa459968050318e2f08726ab21ebe93a69f049cd"), looks := false }, kinds := [], alts := [], laidByText := true, laidKinds := [.data], laidTests := true, laidLooks := .later }
def FnExactSearchUpCardSaid : Prop := Claim7.holds Tryz.pinned (.plain (OpenSpec.ofChange fnExactSearchUpSpec)) fnExactSearchUpCard

/-- THE TIED CARD OF 'laws.FnExactPadsUp'. -/
def fnExactPadsUpCard : Claim7 := { stood := { row := fnExactPadsUpRow, standIns := [], harness := (true, "20dbe0b4356bd1c8e331a898fa459968050318e2f08726ab21ebe93a69f049cd"), looks := false }, kinds := [], alts := [], laidByText := true, laidKinds := [.data], laidTests := true, laidLooks := .later }
def FnExactPadsUpCardSaid : Prop := Claim7.holds Tryz.pinned (.plain (OpenSpec.ofChange fnExactPadsUpSpec)) fnExactPadsUpCard

/-- THE SECOND FORM's CARD OF 'laws.FnExactMayStop'. -/
def fnExactMayStopUptoCard : Claim7 := { stood := { row := fnExactMayStopUptoRow, standIns := [], harness := (true, "20dbe0b4356bd1c8e331a898fa459968050318e2f08726ab21ebe93a69f049cd"), looks := false }, kinds := [], alts := [], laidByText := true, laidKinds := [.data], laidTests := true, laidLooks := .later }
def FnExactMayStopUptoCardSaid : Prop := Claim7.holds Tryz.pinned (.plain (OpenSpec.upto fnExactMayStopSpec)) fnExactMayStopUptoCard

/-- THE SECOND FORM's CARD OF 'laws.FnExactSearchUp'. -/
def fnExactSearchUpUptoCard : Claim7 := { stood := { row := fnExactSearchUpUptoRow, standIns := [], harness := (true, "20dbe0b4356bd1c8e331a898fa459968050318e2f08726ab21ebe93a69f049cd"), looks := false }, kinds := [], alts := [], laidByText := true, laidKinds := [.data], laidTests := true, laidLooks := .later }
def FnExactSearchUpUptoCardSaid : Prop := Claim7.holds Tryz.pinned (.plain (OpenSpec.upto fnExactSearchUpSpec)) fnExactSearchUpUptoCard

/-- THE SECOND FORM's CARD OF 'laws.FnExactPadsUp'. -/
def fnExactPadsUpUptoCard : Claim7 := { stood := { row := fnExactPadsUpUptoRow, standIns := [], harness := (true, "20dbe0b4356bd1c8e331a898fa459968050318e2f08726ab21ebe93a69f049cd"), looks := false }, kinds := [], alts := [], laidByText := true, laidKinds := [.data], laidTests := true, laidLooks := .later }
def FnExactPadsUpUptoCardSaid : Prop := Claim7.holds Tryz.pinned (.plain (OpenSpec.upto fnExactPadsUpSpec)) fnExactPadsUpUptoCard
end Rows
end Go.Proofs.YtpbkkjiikhjanaaGreatDoor
