/-
  DERIVED. GIVEN WITH THE SEED: THE CARDS: each row of YtdipalinddfekaaDoorRows.lean that lists a variable, with what it lists TIED to the program's text (the seventh form; the later family's looks); each row that meets fmt, with fmt's text TOLD by the authors' own Lean function (tested against real Go, not proved from fmt's source: count such statements apart). THE CARD IS WHAT COUNTS. Prove the row's statement (the work); the ties are given (YtdipalinddfekaaDoorTie.lean); close each card by the builder's one call (the guide's Derived/Test/ToyasCard.lean, 'card_holds'). Laid BY PROGRAM, IN A SANDBOX (cutbox-door.mjs). By AI agents, Wed Nov 11 2026. No macro, syntax, notation, axiom, sorry.
-/
import Derived.Test.YtdipalinddfekaaDoorRows
import GoSem.ClaimSeven
namespace Go.Proofs.YtdipalinddfekaaDoor
namespace Rows

/-- THE TIED CARD OF 'jointerlaw05.CalcLazy'. -/
def calcLazyCard : Claim7 := { stood := { row := calcLazyRow, standIns := [], harness := (true, "637cea22849c5756518fb43fad52320abedcac36ceccdbc429d3373eec716e5f"), looks := false }, kinds := [], alts := [], laidByText := true, laidKinds := [.data, .pinned], laidTests := true, laidLooks := .later }
def CalcLazyCardSaid : Prop := Claim7.holds Tryd.pinned (.plain (OpenSpec.ofChange calcLazySpec)) calcLazyCard

/-- THE SECOND FORM's CARD OF 'jointerlaw05.CalcLazy'. -/
def calcLazyUptoCard : Claim7 := { stood := { row := calcLazyUptoRow, standIns := [], harness := (true, "637cea22849c5756518fb43fad52320abedcac36ceccdbc429d3373eec716e5f"), looks := false }, kinds := [], alts := [], laidByText := true, laidKinds := [.data, .pinned], laidTests := true, laidLooks := .later }
def CalcLazyUptoCardSaid : Prop := Claim7.holds Tryd.pinned (.plain (OpenSpec.upto calcLazySpec)) calcLazyUptoCard
end Rows
end Go.Proofs.YtdipalinddfekaaDoor
