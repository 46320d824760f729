/-
  DERIVED. GIVEN WITH THE SEED: THE CARDS: each row of YtejmdjmmgdggbaaDoorRows.lean that lists a variable, with what it lists TIED to the program's text (the seventh form; the later family's looks); each row that meets fmt, with fmt's text TOLD by the authors' own Lean function (tested against real Go, not proved from fmt's source: count such statements apart). THE CARD IS WHAT COUNTS. Prove the row's statement (the work); the ties are given (YtejmdjmmgdggbaaDoorTie.lean); close each card by the builder's one call (the guide's Derived/Test/ToyasCard.lean, 'card_holds'). Laid BY PROGRAM, IN A SANDBOX (cutbox-door.mjs). By AI agents, Wed Nov 11 2026. No macro, syntax, notation, axiom, sorry.
-/
import Derived.Test.YtejmdjmmgdggbaaDoorRows
import GoSem.ClaimSeven
namespace Go.Proofs.YtejmdjmmgdggbaaDoor
namespace Rows

/-- THE TIED CARD OF 'laws.FnExactClauseSort'. -/
def fnExactClauseSortCard : Claim7 := { stood := { row := fnExactClauseSortRow, standIns := [], harness := (true, "c590f4cf56ace87215ce7c3529e43c1b983818f932f81626c6c757a7fb45b8b3"), looks := false }, kinds := [], alts := [], laidByText := true, laidKinds := [.data], laidTests := true, laidLooks := .later }
def FnExactClauseSortCardSaid : Prop := Claim7.holds Tryd.pinned (.plain (OpenSpec.ofChange fnExactClauseSortSpec)) fnExactClauseSortCard

/-- THE TIED CARD OF 'laws.FnExactResolve'. -/
def fnExactResolveCard : Claim7 := { stood := { row := fnExactResolveRow, standIns := [], harness := (true, "c590f4cf56ace87215ce7c3529e43c1b983818f932f81626c6c757a7fb45b8b3"), looks := false }, kinds := [], alts := [], laidByText := true, laidKinds := [.data], laidTests := true, laidLooks := .later }
def FnExactResolveCardSaid : Prop := Claim7.holds Tryd.pinned (.plain (OpenSpec.ofChange fnExactResolveSpec)) fnExactResolveCard

/-- THE SECOND FORM's CARD OF 'laws.FnExactClauseSort'. -/
def fnExactClauseSortUptoCard : Claim7 := { stood := { row := fnExactClauseSortUptoRow, standIns := [], harness := (true, "c590f4cf56ace87215ce7c3529e43c1b983818f932f81626c6c757a7fb45b8b3"), looks := false }, kinds := [], alts := [], laidByText := true, laidKinds := [.data], laidTests := true, laidLooks := .later }
def FnExactClauseSortUptoCardSaid : Prop := Claim7.holds Tryd.pinned (.plain (OpenSpec.upto fnExactClauseSortSpec)) fnExactClauseSortUptoCard

/-- THE SECOND FORM's CARD OF 'laws.FnExactResolve'. -/
def fnExactResolveUptoCard : Claim7 := { stood := { row := fnExactResolveUptoRow, standIns := [], harness := (true, "c590f4cf56ace87215ce7c3529e43c1b983818f932f81626c6c757a7fb45b8b3"), looks := false }, kinds := [], alts := [], laidByText := true, laidKinds := [.data], laidTests := true, laidLooks := .later }
def FnExactResolveUptoCardSaid : Prop := Claim7.holds Tryd.pinned (.plain (OpenSpec.upto fnExactResolveSpec)) fnExactResolveUptoCard
end Rows
end Go.Proofs.YtejmdjmmgdggbaaDoor
