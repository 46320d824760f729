/-
  DERIVED. GIVEN WITH THE SEED: THE CARDS: each row of YtgmbahbdepllnaaDoorRows.lean that lists a variable, with what it lists TIED to the program's text (the seventh form; the later family's looks); each row that meets fmt, with fmt's text TOLD by the authors' own Lean function (tested against real Go, not proved from fmt's source: count such statements apart). THE CARD IS WHAT COUNTS. Prove the row's statement (the work); the ties are given (YtgmbahbdepllnaaDoorTie.lean); close each card by the builder's one call (the guide's Derived/Test/ToyasCard.lean, 'card_holds'). Laid BY PROGRAM, IN A SANDBOX (cutbox-door.mjs). By AI agents, Wed Nov 11 2026. No macro, syntax, notation, axiom, sorry.
-/
import Derived.Test.YtgmbahbdepllnaaDoorRows
import GoSem.ClaimSeven
namespace Go.Proofs.YtgmbahbdepllnaaDoor
namespace Rows

/-- THE TIED CARD OF 'laws.FnSort'. -/
def fnSortCard : Claim7 := { stood := { row := fnSortRow, standIns := [], harness := (true, "7fbe40f834377bbe0851f784c7f4a04dc750e598a4ffd30fcce00eaa9aaa9f79"), looks := false }, kinds := [], alts := [], laidByText := true, laidKinds := [.data], laidTests := true, laidLooks := .later }
def FnSortCardSaid : Prop := Claim7.holds Tryd.pinned (.plain (OpenSpec.ofChange fnSortSpec)) fnSortCard

/-- THE TIED CARD OF 'laws.FnExactGroups'. -/
def fnExactGroupsCard : Claim7 := { stood := { row := fnExactGroupsRow, standIns := [], harness := (true, "7fbe40f834377bbe0851f784c7f4a04dc750e598a4ffd30fcce00eaa9aaa9f79"), looks := false }, kinds := [], alts := [], laidByText := true, laidKinds := [.data], laidTests := true, laidLooks := .later }
def FnExactGroupsCardSaid : Prop := Claim7.holds Tryd.pinned (.plain (OpenSpec.ofChange fnExactGroupsSpec)) fnExactGroupsCard

/-- THE SECOND FORM's CARD OF 'laws.FnSort'. -/
def fnSortUptoCard : Claim7 := { stood := { row := fnSortUptoRow, standIns := [], harness := (true, "7fbe40f834377bbe0851f784c7f4a04dc750e598a4ffd30fcce00eaa9aaa9f79"), looks := false }, kinds := [], alts := [], laidByText := true, laidKinds := [.data], laidTests := true, laidLooks := .later }
def FnSortUptoCardSaid : Prop := Claim7.holds Tryd.pinned (.plain (OpenSpec.upto fnSortSpec)) fnSortUptoCard

/-- THE SECOND FORM's CARD OF 'laws.FnExactGroups'. -/
def fnExactGroupsUptoCard : Claim7 := { stood := { row := fnExactGroupsUptoRow, standIns := [], harness := (true, "7fbe40f834377bbe0851f784c7f4a04dc750e598a4ffd30fcce00eaa9aaa9f79"), looks := false }, kinds := [], alts := [], laidByText := true, laidKinds := [.data], laidTests := true, laidLooks := .later }
def FnExactGroupsUptoCardSaid : Prop := Claim7.holds Tryd.pinned (.plain (OpenSpec.upto fnExactGroupsSpec)) fnExactGroupsUptoCard
end Rows
end Go.Proofs.YtgmbahbdepllnaaDoor
