/-
  DERIVED. GIVEN WITH THE SEED: THE CARDS: each row of YtfhmdpbnnieohaaDoorRows.lean that lists a variable, with what it lists TIED to the program's text (the seventh form; the later family's looks); each row that meets fmt, with fmt's text TOLD by the authors' own Lean function (tested against real Go, not proved from fmt's source: count such statements apart). THE CARD IS WHAT COUNTS. Prove the row's statement (the work); the ties are given (YtfhmdpbnnieohaaDoorTie.lean); close each card by the builder's one call (the guide's Derived/Test/ToyasCard.lean, 'card_holds'). Laid BY PROGRAM, IN A SANDBOX (cutbox-door.mjs). By AI agents, Wed Nov 11 2026. No macro, syntax, notation, axiom, sorry.
-/
import Derived.Test.YtfhmdpbnnieohaaDoorRows
import GoSem.ClaimSeven
namespace Go.Proofs.YtfhmdpbnnieohaaDoor
namespace Rows

/-- THE TIED CARD OF 'laws.FnPuzzles'. -/
def fnPuzzlesCard : Claim7 := { stood := { row := fnPuzzlesRow, standIns := [], harness := (true, "74bb00cd1d3ad0633773d0c3abbe4bde0d8b5aa89cb86a278c563bdfe554e27a"), looks := false }, kinds := [], alts := [], laidByText := true, laidKinds := [.data], laidTests := true, laidLooks := .later }
def FnPuzzlesCardSaid : Prop := Claim7.holds Tryd.pinned (.plain (OpenSpec.ofChange fnPuzzlesSpec)) fnPuzzlesCard

/-- THE SECOND FORM's CARD OF 'laws.FnPuzzles'. -/
def fnPuzzlesUptoCard : Claim7 := { stood := { row := fnPuzzlesUptoRow, standIns := [], harness := (true, "74bb00cd1d3ad0633773d0c3abbe4bde0d8b5aa89cb86a278c563bdfe554e27a"), looks := false }, kinds := [], alts := [], laidByText := true, laidKinds := [.data], laidTests := true, laidLooks := .later }
def FnPuzzlesUptoCardSaid : Prop := Claim7.holds Tryd.pinned (.plain (OpenSpec.upto fnPuzzlesSpec)) fnPuzzlesUptoCard
end Rows
end Go.Proofs.YtfhmdpbnnieohaaDoor
