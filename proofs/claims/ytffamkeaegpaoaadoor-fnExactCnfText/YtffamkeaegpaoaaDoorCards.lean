/-
  DERIVED. GIVEN WITH THE SEED: THE CARDS: each row of YtffamkeaegpaoaaDoorRows.lean that lists a variable, with what it lists TIED to the program's text (the seventh form; the later family's looks); each row that meets fmt, with fmt's text TOLD by the authors' own Lean function (tested against real Go, not proved from fmt's source: count such statements apart). THE CARD IS WHAT COUNTS. Prove the row's statement (the work); the ties are given (YtffamkeaegpaoaaDoorTie.lean); close each card by the builder's one call (the guide's Derived/Test/ToyasCard.lean, 'card_holds'). Laid BY PROGRAM, IN A SANDBOX (cutbox-door.mjs). By AI agents, Wed Nov 11 2026. No macro, syntax, notation, axiom, sorry.
-/
import Derived.Test.YtffamkeaegpaoaaDoorRows
import GoSem.ClaimSeven
namespace Go.Proofs.YtffamkeaegpaoaaDoor
namespace Rows

/-- THE TIED CARD OF 'laws.FnCnfSort'. -/
def fnCnfSortCard : Claim7 := { stood := { row := fnCnfSortRow, standIns := [], harness := (true, "39388c5e8ba91186deec6477da4219c013613fd0a59dfe05cd5e24cde62bab69"), looks := true }, kinds := [], alts := [], laidByText := true, laidKinds := [.data], laidTests := true, laidLooks := .later }
def FnCnfSortCardSaid : Prop := Claim7.holds Tryd.pinned (.plain (OpenSpec.ofChange fnCnfSortSpec)) fnCnfSortCard

/-- THE TIED CARD OF 'laws.FnAssign'. -/
def fnAssignCard : Claim7 := { stood := { row := fnAssignRow, standIns := [], harness := (true, "39388c5e8ba91186deec6477da4219c013613fd0a59dfe05cd5e24cde62bab69"), looks := true }, kinds := [], alts := [], laidByText := true, laidKinds := [.data, .data, .data, .sentinel, .sentinel], laidTests := true, laidLooks := .later }
def FnAssignCardSaid : Prop := Claim7.holds Tryd.pinned (.plain (OpenSpec.ofChange fnAssignSpec)) fnAssignCard

/-- THE TIED CARD OF 'laws.FnExactCnfSort'. -/
def fnExactCnfSortCard : Claim7 := { stood := { row := fnExactCnfSortRow, standIns := [], harness := (true, "39388c5e8ba91186deec6477da4219c013613fd0a59dfe05cd5e24cde62bab69"), looks := true }, kinds := [], alts := [], laidByText := true, laidKinds := [.data], laidTests := true, laidLooks := .later }
def FnExactCnfSortCardSaid : Prop := Claim7.holds Tryd.pinned (.plain (OpenSpec.ofChange fnExactCnfSortSpec)) fnExactCnfSortCard

/-- THE TIED CARD OF 'laws.FnExactCnfText'. -/
def fnExactCnfTextCard : Claim7 := { stood := { row := fnExactCnfTextRow, standIns := [], harness := (true, "39388c5e8ba91186deec6477da4219c013613fd0a59dfe05cd5e24cde62bab69"), looks := true }, kinds := [], alts := [], laidByText := true, laidKinds := [.data, .data, .data], laidTests := true, laidLooks := .later }
def FnExactCnfTextCardSaid : Prop := Claim7.holds Tryd.pinned (.plain (OpenSpec.ofChange fnExactCnfTextSpec)) fnExactCnfTextCard

/-- THE TIED CARD OF 'laws.FnExactAssignText'. -/
def fnExactAssignTextCard : Claim7 := { stood := { row := fnExactAssignTextRow, standIns := [], harness := (true, "39388c5e8ba91186deec6477da4219c013613fd0a59dfe05cd5e24cde62bab69"), looks := true }, kinds := [], alts := [], laidByText := true, laidKinds := [.data, .data, .data], laidTests := true, laidLooks := .later }
def FnExactAssignTextCardSaid : Prop := Claim7.holds Tryd.pinned (.plain (OpenSpec.ofChange fnExactAssignTextSpec)) fnExactAssignTextCard

/-- THE TIED CARD OF 'laws.FnExactReadAssign'. -/
def fnExactReadAssignCard : Claim7 := { stood := { row := fnExactReadAssignRow, standIns := [], harness := (true, "39388c5e8ba91186deec6477da4219c013613fd0a59dfe05cd5e24cde62bab69"), looks := true }, kinds := [], alts := [], laidByText := true, laidKinds := [.data, .data, .data, .sentinel, .sentinel], laidTests := true, laidLooks := .later }
def FnExactReadAssignCardSaid : Prop := Claim7.holds Tryd.pinned (.plain (OpenSpec.ofChange fnExactReadAssignSpec)) fnExactReadAssignCard

/-- THE SECOND FORM's CARD OF 'laws.FnCnfSort'. -/
def fnCnfSortUptoCard : Claim7 := { stood := { row := fnCnfSortUptoRow, standIns := [], harness := (true, "39388c5e8ba91186deec6477da4219c013613fd0a59dfe05cd5e24cde62bab69"), looks := true }, kinds := [], alts := [], laidByText := true, laidKinds := [.data], laidTests := true, laidLooks := .later }
def FnCnfSortUptoCardSaid : Prop := Claim7.holds Tryd.pinned (.plain (OpenSpec.upto fnCnfSortSpec)) fnCnfSortUptoCard

/-- THE SECOND FORM's CARD OF 'laws.FnAssign'. -/
def fnAssignUptoCard : Claim7 := { stood := { row := fnAssignUptoRow, standIns := [], harness := (true, "39388c5e8ba91186deec6477da4219c013613fd0a59dfe05cd5e24cde62bab69"), looks := true }, kinds := [], alts := [], laidByText := true, laidKinds := [.data, .data, .data, .sentinel, .sentinel], laidTests := true, laidLooks := .later }
def FnAssignUptoCardSaid : Prop := Claim7.holds Tryd.pinned (.plain (OpenSpec.upto fnAssignSpec)) fnAssignUptoCard

/-- THE SECOND FORM's CARD OF 'laws.FnExactCnfSort'. -/
def fnExactCnfSortUptoCard : Claim7 := { stood := { row := fnExactCnfSortUptoRow, standIns := [], harness := (true, "39388c5e8ba91186deec6477da4219c013613fd0a59dfe05cd5e24cde62bab69"), looks := true }, kinds := [], alts := [], laidByText := true, laidKinds := [.data], laidTests := true, laidLooks := .later }
def FnExactCnfSortUptoCardSaid : Prop := Claim7.holds Tryd.pinned (.plain (OpenSpec.upto fnExactCnfSortSpec)) fnExactCnfSortUptoCard

/-- THE SECOND FORM's CARD OF 'laws.FnExactCnfText'. -/
def fnExactCnfTextUptoCard : Claim7 := { stood := { row := fnExactCnfTextUptoRow, standIns := [], harness := (true, "39388c5e8ba91186deec6477da4219c013613fd0a59dfe05cd5e24cde62bab69"), looks := true }, kinds := [], alts := [], laidByText := true, laidKinds := [.data, .data, .data], laidTests := true, laidLooks := .later }
def FnExactCnfTextUptoCardSaid : Prop := Claim7.holds Tryd.pinned (.plain (OpenSpec.upto fnExactCnfTextSpec)) fnExactCnfTextUptoCard

/-- THE SECOND FORM's CARD OF 'laws.FnExactAssignText'. -/
def fnExactAssignTextUptoCard : Claim7 := { stood := { row := fnExactAssignTextUptoRow, standIns := [], harness := (true, "39388c5e8ba91186deec6477da4219c013613fd0a59dfe05cd5e24cde62bab69"), looks := true }, kinds := [], alts := [], laidByText := true, laidKinds := [.data, .data, .data], laidTests := true, laidLooks := .later }
def FnExactAssignTextUptoCardSaid : Prop := Claim7.holds Tryd.pinned (.plain (OpenSpec.upto fnExactAssignTextSpec)) fnExactAssignTextUptoCard

/-- THE SECOND FORM's CARD OF 'laws.FnExactReadAssign'. -/
def fnExactReadAssignUptoCard : Claim7 := { stood := { row := fnExactReadAssignUptoRow, standIns := [], harness := (true, "39388c5e8ba91186deec6477da4219c013613fd0a59dfe05cd5e24cde62bab69"), looks := true }, kinds := [], alts := [], laidByText := true, laidKinds := [.data, .data, .data, .sentinel, .sentinel], laidTests := true, laidLooks := .later }
def FnExactReadAssignUptoCardSaid : Prop := Claim7.holds Tryd.pinned (.plain (OpenSpec.upto fnExactReadAssignSpec)) fnExactReadAssignUptoCard
end Rows
end Go.Proofs.YtffamkeaegpaoaaDoor
