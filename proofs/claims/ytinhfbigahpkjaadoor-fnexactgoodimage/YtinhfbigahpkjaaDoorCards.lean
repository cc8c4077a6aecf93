/-
  DERIVED. GIVEN WITH THE SEED: THE CARDS: each row of YtinhfbigahpkjaaDoorRows.lean that lists a variable, with what it lists TIED to the program's text (the seventh form; the later family's looks); each row that meets fmt, with fmt's text TOLD by the authors' own Lean function (tested against real Go, not proved from fmt's source: count such statements apart). THE CARD IS WHAT COUNTS. Prove the row's statement (the work); the ties are given (YtinhfbigahpkjaaDoorTie.lean); close each card by the builder's one call (the guide's Derived/Test/ToyasCard.lean, 'card_holds'). Laid BY PROGRAM, IN A SANDBOX (cutbox-door.mjs). By AI agents, Wed Nov 11 2026. No macro, syntax, notation, axiom, sorry.
-/
import Derived.Test.YtinhfbigahpkjaaDoorRows
import GoSem.ClaimSeven
namespace Go.Proofs.YtinhfbigahpkjaaDoor
namespace Rows

/-- THE TIED CARD OF 'laws.FnExactHeightsOf'. -/
def fnExactHeightsOfCard : Claim7 := { stood := { row := fnExactHeightsOfRow, standIns := [], harness := (true, "a0f74ef18ed2001cd6f40859c24657e69d174e3156b72f147f379069d760a4bf"), looks := false }, kinds := [], alts := [], laidByText := true, laidKinds := [.data], laidTests := true, laidLooks := .later }
def FnExactHeightsOfCardSaid : Prop := Claim7.holds Tryd.pinned (.plain (OpenSpec.ofChange fnExactHeightsOfSpec)) fnExactHeightsOfCard

/-- THE TIED CARD OF 'laws.FnExactGoodCode'. -/
def fnExactGoodCodeCard : Claim7 := { stood := { row := fnExactGoodCodeRow, standIns := [], harness := (true, "a0f74ef18ed2001cd6f40859c24657e69d174e3156b72f147f379069d760a4bf"), looks := false }, kinds := [], alts := [], laidByText := true, laidKinds := [.data], laidTests := true, laidLooks := .later }
def FnExactGoodCodeCardSaid : Prop := Claim7.holds Tryd.pinned (.plain (OpenSpec.ofChange fnExactGoodCodeSpec)) fnExactGoodCodeCard

/-- THE TIED CARD OF 'laws.FnExactGoodImage'. -/
def fnExactGoodImageCard : Claim7 := { stood := { row := fnExactGoodImageRow, standIns := [], harness := (true, "a0f74ef18ed2001cd6f40859c24657e69d174e3156b72f147f379069d760a4bf"), looks := false }, kinds := [], alts := [], laidByText := true, laidKinds := [.data], laidTests := true, laidLooks := .later }
def FnExactGoodImageCardSaid : Prop := Claim7.holds Tryd.pinned (.plain (OpenSpec.ofChange fnExactGoodImageSpec)) fnExactGoodImageCard

/-- THE TIED CARD OF 'laws.FnExactNextOf'. -/
def fnExactNextOfCard : Claim7 := { stood := { row := fnExactNextOfRow, standIns := [], harness := (true, "a0f74ef18ed2001cd6f40859c24657e69d174e3156b72f147f379069d760a4bf"), looks := false }, kinds := [], alts := [], laidByText := true, laidKinds := [.data], laidTests := true, laidLooks := .later }
def FnExactNextOfCardSaid : Prop := Claim7.holds Tryd.pinned (.plain (OpenSpec.ofChange fnExactNextOfSpec)) fnExactNextOfCard

/-- THE TIED CARD OF 'laws.FnExactTakesPuts'. -/
def fnExactTakesPutsCard : Claim7 := { stood := { row := fnExactTakesPutsRow, standIns := [], harness := (true, "a0f74ef18ed2001cd6f40859c24657e69d174e3156b72f147f379069d760a4bf"), looks := false }, kinds := [], alts := [], laidByText := true, laidKinds := [.data], laidTests := true, laidLooks := .later }
def FnExactTakesPutsCardSaid : Prop := Claim7.holds Tryd.pinned (.plain (OpenSpec.ofChange fnExactTakesPutsSpec)) fnExactTakesPutsCard

/-- THE TIED CARD OF 'laws.FnExactInsText'. -/
def fnExactInsTextCard : Claim7 := { stood := { row := fnExactInsTextRow, standIns := [], harness := (true, "a0f74ef18ed2001cd6f40859c24657e69d174e3156b72f147f379069d760a4bf"), looks := false }, kinds := [], alts := [], laidByText := true, laidKinds := [.data, .data, .data, .data], laidTests := true, laidLooks := .later }
def FnExactInsTextCardSaid : Prop := Claim7.holds Tryd.pinned (.plain (OpenSpec.ofChange fnExactInsTextSpec)) fnExactInsTextCard

/-- THE SECOND FORM's CARD OF 'laws.FnExactHeightsOf'. -/
def fnExactHeightsOfUptoCard : Claim7 := { stood := { row := fnExactHeightsOfUptoRow, standIns := [], harness := (true, "a0f74ef18ed2001cd6f40859c24657e69d174e3156b72f147f379069d760a4bf"), looks := false }, kinds := [], alts := [], laidByText := true, laidKinds := [.data], laidTests := true, laidLooks := .later }
def FnExactHeightsOfUptoCardSaid : Prop := Claim7.holds Tryd.pinned (.plain (OpenSpec.upto fnExactHeightsOfSpec)) fnExactHeightsOfUptoCard

/-- THE SECOND FORM's CARD OF 'laws.FnExactGoodCode'. -/
def fnExactGoodCodeUptoCard : Claim7 := { stood := { row := fnExactGoodCodeUptoRow, standIns := [], harness := (true, "a0f74ef18ed2001cd6f40859c24657e69d174e3156b72f147f379069d760a4bf"), looks := false }, kinds := [], alts := [], laidByText := true, laidKinds := [.data], laidTests := true, laidLooks := .later }
def FnExactGoodCodeUptoCardSaid : Prop := Claim7.holds Tryd.pinned (.plain (OpenSpec.upto fnExactGoodCodeSpec)) fnExactGoodCodeUptoCard

/-- THE SECOND FORM's CARD OF 'laws.FnExactGoodImage'. -/
def fnExactGoodImageUptoCard : Claim7 := { stood := { row := fnExactGoodImageUptoRow, standIns := [], harness := (true, "a0f74ef18ed2001cd6f40859c24657e69d174e3156b72f147f379069d760a4bf"), looks := false }, kinds := [], alts := [], laidByText := true, laidKinds := [.data], laidTests := true, laidLooks := .later }
def FnExactGoodImageUptoCardSaid : Prop := Claim7.holds Tryd.pinned (.plain (OpenSpec.upto fnExactGoodImageSpec)) fnExactGoodImageUptoCard

/-- THE SECOND FORM's CARD OF 'laws.FnExactNextOf'. -/
def fnExactNextOfUptoCard : Claim7 := { stood := { row := fnExactNextOfUptoRow, standIns := [], harness := (true, "a0f74ef18ed2001cd6f40859c24657e69d174e3156b72f147f379069d760a4bf"), looks := false }, kinds := [], alts := [], laidByText := true, laidKinds := [.data], laidTests := true, laidLooks := .later }
def FnExactNextOfUptoCardSaid : Prop := Claim7.holds Tryd.pinned (.plain (OpenSpec.upto fnExactNextOfSpec)) fnExactNextOfUptoCard

/-- THE SECOND FORM's CARD OF 'laws.FnExactTakesPuts'. -/
def fnExactTakesPutsUptoCard : Claim7 := { stood := { row := fnExactTakesPutsUptoRow, standIns := [], harness := (true, "a0f74ef18ed2001cd6f40859c24657e69d174e3156b72f147f379069d760a4bf"), looks := false }, kinds := [], alts := [], laidByText := true, laidKinds := [.data], laidTests := true, laidLooks := .later }
def FnExactTakesPutsUptoCardSaid : Prop := Claim7.holds Tryd.pinned (.plain (OpenSpec.upto fnExactTakesPutsSpec)) fnExactTakesPutsUptoCard

/-- THE SECOND FORM's CARD OF 'laws.FnExactInsText'. -/
def fnExactInsTextUptoCard : Claim7 := { stood := { row := fnExactInsTextUptoRow, standIns := [], harness := (true, "a0f74ef18ed2001cd6f40859c24657e69d174e3156b72f147f379069d760a4bf"), looks := false }, kinds := [], alts := [], laidByText := true, laidKinds := [.data, .data, .data, .data], laidTests := true, laidLooks := .later }
def FnExactInsTextUptoCardSaid : Prop := Claim7.holds Tryd.pinned (.plain (OpenSpec.upto fnExactInsTextSpec)) fnExactInsTextUptoCard
end Rows
end Go.Proofs.YtinhfbigahpkjaaDoor
