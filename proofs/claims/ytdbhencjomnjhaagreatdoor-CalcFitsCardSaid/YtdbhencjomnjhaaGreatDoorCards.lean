/-
  DERIVED. GIVEN WITH THE SEED: THE CARDS: each row of YtdbhencjomnjhaaGreatDoorRows.lean that lists a variable, with what it lists TIED to the program's text (the seventh form; the later family's looks); each row that meets fmt, with fmt's text TOLD by the authors' own Lean function (tested against real Go, not proved from fmt's source: count such statements apart). THE CARD IS WHAT COUNTS. Prove the row's statement (the work); the ties are given (YtdbhencjomnjhaaGreatDoorTie.lean); close each card by the builder's one call (the guide's Derived/Test/ToyasCard.lean, 'card_holds'). Laid BY PROGRAM, IN A SANDBOX (cutbox-door.mjs). By AI agents, Wed Nov 11 2026. No macro, syntax, notation, axiom, sorry.
-/
import Derived.Test.YtdbhencjomnjhaaGreatDoorRows
import GoSem.ClaimSeven
namespace Go.Proofs.YtdbhencjomnjhaaGreatDoor
namespace Rows

/-- THE TIED CARD OF 'jointerlaw05.CalcFits'. -/
def calcFitsCard : Claim7 := { stood := { row := calcFitsRow, standIns := [], harness := (true, "862ce72cc22caf714dea23b6d15aa38bd51811b1c69d1ebb533cbed9add7b5ba"), looks := false }, kinds := [], alts := [], laidByText := true, laidKinds := [.data, .pinned], laidTests := true, laidLooks := .later }
def CalcFitsCardSaid : Prop := Claim7.holds Tryz.pinned (.plain (OpenSpec.ofChange calcFitsSpec)) calcFitsCard

/-- THE SECOND FORM's CARD OF 'jointerlaw05.CalcFits'. -/
def calcFitsUptoCard : Claim7 := { stood := { row := calcFitsUptoRow, standIns := [], harness := (true, "862ce72cc22caf714dea23b6d15aa38bd51811b1c69d1ebb533cbed9add7b5ba"), looks := false }, kinds := [], alts := [], laidByText := true, laidKinds := [.data, .pinned], laidTests := true, laidLooks := .later }
def CalcFitsUptoCardSaid : Prop := Claim7.holds Tryz.pinned (.plain (OpenSpec.upto calcFitsSpec)) calcFitsUptoCard
end Rows
end Go.Proofs.YtdbhencjomnjhaaGreatDoor
