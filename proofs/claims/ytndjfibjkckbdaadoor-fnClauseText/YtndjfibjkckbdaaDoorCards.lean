/-
  DERIVED. GIVEN WITH THE SEED: THE CARDS: each row of YtndjfibjkckbdaaDoorRows.lean that lists a variable, with what it lists TIED to the program's text (the seventh form; the later family's looks); each row that meets fmt, with fmt's text TOLD by the authors' own Lean function (tested against real Go, not proved from fmt's source: count such statements apart). THE CARD IS WHAT COUNTS. Prove the row's statement (the work); the ties are given (YtndjfibjkckbdaaDoorTie.lean); close each card by the builder's one call (the guide's Derived/Test/ToyasCard.lean, 'card_holds'). Laid BY PROGRAM, IN A SANDBOX (cutbox-door.mjs). By AI agents, Wed Nov 11 2026. No macro, syntax, notation, axiom, sorry.
-/
import Derived.Test.YtndjfibjkckbdaaDoorRows
import GoSem.ClaimSeven
namespace Go.Proofs.YtndjfibjkckbdaaDoor
namespace Rows

/-- THE TIED CARD OF 'laws.FnClauseText'. -/
def fnClauseTextCard : Claim7 := { stood := { row := fnClauseTextRow, standIns := [], harness := (true, "5619f0b044ecd5cd8925e204d72982e808671be9e846e1cde2aa81955e632a04"), looks := true }, kinds := [], alts := [], laidByText := true, laidKinds := [.data, .data, .data, .sentinel, .sentinel], laidTests := true, laidLooks := .later }
def FnClauseTextCardSaid : Prop := Claim7.holds Tryd.pinned (.plain (OpenSpec.ofChange fnClauseTextSpec)) fnClauseTextCard

/-- THE TIED CARD OF 'laws.FnExactClauseSort'. -/
def fnExactClauseSortCard : Claim7 := { stood := { row := fnExactClauseSortRow, standIns := [], harness := (true, "5619f0b044ecd5cd8925e204d72982e808671be9e846e1cde2aa81955e632a04"), looks := true }, kinds := [], alts := [], laidByText := true, laidKinds := [.data], laidTests := true, laidLooks := .later }
def FnExactClauseSortCardSaid : Prop := Claim7.holds Tryd.pinned (.plain (OpenSpec.ofChange fnExactClauseSortSpec)) fnExactClauseSortCard

/-- THE TIED CARD OF 'laws.FnExactResolve'. -/
def fnExactResolveCard : Claim7 := { stood := { row := fnExactResolveRow, standIns := [], harness := (true, "5619f0b044ecd5cd8925e204d72982e808671be9e846e1cde2aa81955e632a04"), looks := true }, kinds := [], alts := [], laidByText := true, laidKinds := [.data], laidTests := true, laidLooks := .later }
def FnExactResolveCardSaid : Prop := Claim7.holds Tryd.pinned (.plain (OpenSpec.ofChange fnExactResolveSpec)) fnExactResolveCard

/-- THE TIED CARD OF 'laws.FnExactClauseText'. -/
def fnExactClauseTextCard : Claim7 := { stood := { row := fnExactClauseTextRow, standIns := [], harness := (true, "5619f0b044ecd5cd8925e204d72982e808671be9e846e1cde2aa81955e632a04"), looks := true }, kinds := [], alts := [], laidByText := true, laidKinds := [.data, .data, .data], laidTests := true, laidLooks := .later }
def FnExactClauseTextCardSaid : Prop := Claim7.holds Tryd.pinned (.plain (OpenSpec.ofChange fnExactClauseTextSpec)) fnExactClauseTextCard

/-- THE TIED CARD OF 'laws.FnExactReadClause'. -/
def fnExactReadClauseCard : Claim7 := { stood := { row := fnExactReadClauseRow, standIns := [], harness := (true, "5619f0b044ecd5cd8925e204d72982e808671be9e846e1cde2aa81955e632a04"), looks := true }, kinds := [], alts := [], laidByText := true, laidKinds := [.data, .data, .data, .sentinel, .sentinel], laidTests := true, laidLooks := .later }
def FnExactReadClauseCardSaid : Prop := Claim7.holds Tryd.pinned (.plain (OpenSpec.ofChange fnExactReadClauseSpec)) fnExactReadClauseCard

/-- THE SECOND FORM's CARD OF 'laws.FnClauseText'. -/
def fnClauseTextUptoCard : Claim7 := { stood := { row := fnClauseTextUptoRow, standIns := [], harness := (true, "5619f0b044ecd5cd8925e204d72982e808671be9e846e1cde2aa81955e632a04"), looks := true }, kinds := [], alts := [], laidByText := true, laidKinds := [.data, .data, .data, .sentinel, .sentinel], laidTests := true, laidLooks := .later }
def FnClauseTextUptoCardSaid : Prop := Claim7.holds Tryd.pinned (.plain (OpenSpec.upto fnClauseTextSpec)) fnClauseTextUptoCard

/-- THE SECOND FORM's CARD OF 'laws.FnExactClauseSort'. -/
def fnExactClauseSortUptoCard : Claim7 := { stood := { row := fnExactClauseSortUptoRow, standIns := [], harness := (true, "5619f0b044ecd5cd8925e204d72982e808671be9e846e1cde2aa81955e632a04"), looks := true }, kinds := [], alts := [], laidByText := true, laidKinds := [.data], laidTests := true, laidLooks := .later }
def FnExactClauseSortUptoCardSaid : Prop := Claim7.holds Tryd.pinned (.plain (OpenSpec.upto fnExactClauseSortSpec)) fnExactClauseSortUptoCard

/-- THE SECOND FORM's CARD OF 'laws.FnExactResolve'. -/
def fnExactResolveUptoCard : Claim7 := { stood := { row := fnExactResolveUptoRow, standIns := [], harness := (true, "5619f0b044ecd5cd8925e204d72982e808671be9e846e1cde2aa81955e632a04"), looks := true }, kinds := [], alts := [], laidByText := true, laidKinds := [.data], laidTests := true, laidLooks := .later }
def FnExactResolveUptoCardSaid : Prop := Claim7.holds Tryd.pinned (.plain (OpenSpec.upto fnExactResolveSpec)) fnExactResolveUptoCard

/-- THE SECOND FORM's CARD OF 'laws.FnExactClauseText'. -/
def fnExactClauseTextUptoCard : Claim7 := { stood := { row := fnExactClauseTextUptoRow, standIns := [], harness := (true, "5619f0b044ecd5cd8925e204d72982e808671be9e846e1cde2aa81955e632a04"), looks := true }, kinds := [], alts := [], laidByText := true, laidKinds := [.data, .data, .data], laidTests := true, laidLooks := .later }
def FnExactClauseTextUptoCardSaid : Prop := Claim7.holds Tryd.pinned (.plain (OpenSpec.upto fnExactClauseTextSpec)) fnExactClauseTextUptoCard

/-- THE SECOND FORM's CARD OF 'laws.FnExactReadClause'. -/
def fnExactReadClauseUptoCard : Claim7 := { stood := { row := fnExactReadClauseUptoRow, standIns := [], harness := (true, "5619f0b044ecd5cd8925e204d72982e808671be9e846e1cde2aa81955e632a04"), looks := true }, kinds := [], alts := [], laidByText := true, laidKinds := [.data, .data, .data, .sentinel, .sentinel], laidTests := true, laidLooks := .later }
def FnExactReadClauseUptoCardSaid : Prop := Claim7.holds Tryd.pinned (.plain (OpenSpec.upto fnExactReadClauseSpec)) fnExactReadClauseUptoCard
end Rows
end Go.Proofs.YtndjfibjkckbdaaDoor
