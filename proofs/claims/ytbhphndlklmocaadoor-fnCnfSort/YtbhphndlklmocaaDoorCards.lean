/-
  DERIVED. GIVEN WITH THE SEED: THE CARDS: each row of YtbhphndlklmocaaDoorRows.lean that lists a variable, with what it lists TIED to the program's text (the seventh form; the later family's looks); each row that meets fmt, with fmt's text TOLD by the authors' own Lean function (tested against real Go, not proved from fmt's source: count such statements apart). THE CARD IS WHAT COUNTS. Prove the row's statement (the work); the ties are given (YtbhphndlklmocaaDoorTie.lean); close each card by the builder's one call (the guide's Derived/Test/ToyasCard.lean, 'card_holds'). Laid BY PROGRAM, IN A SANDBOX (cutbox-door.mjs). By AI agents, Wed Nov 11 2026. No macro, syntax, notation, axiom, sorry.
-/
import Derived.Test.YtbhphndlklmocaaDoorRows
import GoSem.ClaimSeven
namespace Go.Proofs.YtbhphndlklmocaaDoor
namespace Rows

/-- THE TIED CARD OF 'laws.FnCnfSort'. -/
def fnCnfSortCard : Claim7 := { stood := { row := fnCnfSortRow, standIns := [], harness := (true, "6a21988af54e996a6b983aa63c4c4b40b5684ff355eb3d190e4ff2a5fd58b33d"), looks := false }, kinds := [], alts := [], laidByText := true, laidKinds := [.data], laidTests := true, laidLooks := .later }
def FnCnfSortCardSaid : Prop := Claim7.holds Tryd.pinned (.plain (OpenSpec.ofChange fnCnfSortSpec)) fnCnfSortCard

/-- THE TIED CARD OF 'laws.FnForce'. -/
def fnForceCard : Claim7 := { stood := { row := fnForceRow, standIns := [], harness := (true, "6a21988af54e996a6b983aa63c4c4b40b5684ff355eb3d190e4ff2a5fd58b33d"), looks := false }, kinds := [], alts := [], laidByText := true, laidKinds := [.data], laidTests := true, laidLooks := .later }
def FnForceCardSaid : Prop := Claim7.holds Tryd.pinned (.plain (OpenSpec.ofChange fnForceSpec)) fnForceCard

/-- THE TIED CARD OF 'laws.FnLeaves'. -/
def fnLeavesCard : Claim7 := { stood := { row := fnLeavesRow, standIns := [], harness := (true, "6a21988af54e996a6b983aa63c4c4b40b5684ff355eb3d190e4ff2a5fd58b33d"), looks := false }, kinds := [], alts := [], laidByText := true, laidKinds := [.data], laidTests := true, laidLooks := .later }
def FnLeavesCardSaid : Prop := Claim7.holds Tryd.pinned (.plain (OpenSpec.ofChange fnLeavesSpec)) fnLeavesCard

/-- THE TIED CARD OF 'laws.FnExactCnfSort'. -/
def fnExactCnfSortCard : Claim7 := { stood := { row := fnExactCnfSortRow, standIns := [], harness := (true, "6a21988af54e996a6b983aa63c4c4b40b5684ff355eb3d190e4ff2a5fd58b33d"), looks := false }, kinds := [], alts := [], laidByText := true, laidKinds := [.data], laidTests := true, laidLooks := .later }
def FnExactCnfSortCardSaid : Prop := Claim7.holds Tryd.pinned (.plain (OpenSpec.ofChange fnExactCnfSortSpec)) fnExactCnfSortCard

/-- THE TIED CARD OF 'laws.FnExactUnit'. -/
def fnExactUnitCard : Claim7 := { stood := { row := fnExactUnitRow, standIns := [], harness := (true, "6a21988af54e996a6b983aa63c4c4b40b5684ff355eb3d190e4ff2a5fd58b33d"), looks := false }, kinds := [], alts := [], laidByText := true, laidKinds := [.data], laidTests := true, laidLooks := .later }
def FnExactUnitCardSaid : Prop := Claim7.holds Tryd.pinned (.plain (OpenSpec.ofChange fnExactUnitSpec)) fnExactUnitCard

/-- THE TIED CARD OF 'laws.FnExactForce'. -/
def fnExactForceCard : Claim7 := { stood := { row := fnExactForceRow, standIns := [], harness := (true, "6a21988af54e996a6b983aa63c4c4b40b5684ff355eb3d190e4ff2a5fd58b33d"), looks := false }, kinds := [], alts := [], laidByText := true, laidKinds := [.data], laidTests := true, laidLooks := .later }
def FnExactForceCardSaid : Prop := Claim7.holds Tryd.pinned (.plain (OpenSpec.ofChange fnExactForceSpec)) fnExactForceCard

/-- THE TIED CARD OF 'laws.FnExactLeaves'. -/
def fnExactLeavesCard : Claim7 := { stood := { row := fnExactLeavesRow, standIns := [], harness := (true, "6a21988af54e996a6b983aa63c4c4b40b5684ff355eb3d190e4ff2a5fd58b33d"), looks := false }, kinds := [], alts := [], laidByText := true, laidKinds := [.data], laidTests := true, laidLooks := .later }
def FnExactLeavesCardSaid : Prop := Claim7.holds Tryd.pinned (.plain (OpenSpec.ofChange fnExactLeavesSpec)) fnExactLeavesCard

/-- THE SECOND FORM's CARD OF 'laws.FnCnfSort'. -/
def fnCnfSortUptoCard : Claim7 := { stood := { row := fnCnfSortUptoRow, standIns := [], harness := (true, "6a21988af54e996a6b983aa63c4c4b40b5684ff355eb3d190e4ff2a5fd58b33d"), looks := false }, kinds := [], alts := [], laidByText := true, laidKinds := [.data], laidTests := true, laidLooks := .later }
def FnCnfSortUptoCardSaid : Prop := Claim7.holds Tryd.pinned (.plain (OpenSpec.upto fnCnfSortSpec)) fnCnfSortUptoCard

/-- THE SECOND FORM's CARD OF 'laws.FnForce'. -/
def fnForceUptoCard : Claim7 := { stood := { row := fnForceUptoRow, standIns := [], harness := (true, "6a21988af54e996a6b983aa63c4c4b40b5684ff355eb3d190e4ff2a5fd58b33d"), looks := false }, kinds := [], alts := [], laidByText := true, laidKinds := [.data], laidTests := true, laidLooks := .later }
def FnForceUptoCardSaid : Prop := Claim7.holds Tryd.pinned (.plain (OpenSpec.upto fnForceSpec)) fnForceUptoCard

/-- THE SECOND FORM's CARD OF 'laws.FnLeaves'. -/
def fnLeavesUptoCard : Claim7 := { stood := { row := fnLeavesUptoRow, standIns := [], harness := (true, "6a21988af54e996a6b983aa63c4c4b40b5684ff355eb3d190e4ff2a5fd58b33d"), looks := false }, kinds := [], alts := [], laidByText := true, laidKinds := [.data], laidTests := true, laidLooks := .later }
def FnLeavesUptoCardSaid : Prop := Claim7.holds Tryd.pinned (.plain (OpenSpec.upto fnLeavesSpec)) fnLeavesUptoCard

/-- THE SECOND FORM's CARD OF 'laws.FnExactCnfSort'. -/
def fnExactCnfSortUptoCard : Claim7 := { stood := { row := fnExactCnfSortUptoRow, standIns := [], harness := (true, "6a21988af54e996a6b983aa63c4c4b40b5684ff355eb3d190e4ff2a5fd58b33d"), looks := false }, kinds := [], alts := [], laidByText := true, laidKinds := [.data], laidTests := true, laidLooks := .later }
def FnExactCnfSortUptoCardSaid : Prop := Claim7.holds Tryd.pinned (.plain (OpenSpec.upto fnExactCnfSortSpec)) fnExactCnfSortUptoCard

/-- THE SECOND FORM's CARD OF 'laws.FnExactUnit'. -/
def fnExactUnitUptoCard : Claim7 := { stood := { row := fnExactUnitUptoRow, standIns := [], harness := (true, "6a21988af54e996a6b983aa63c4c4b40b5684ff355eb3d190e4ff2a5fd58b33d"), looks := false }, kinds := [], alts := [], laidByText := true, laidKinds := [.data], laidTests := true, laidLooks := .later }
def FnExactUnitUptoCardSaid : Prop := Claim7.holds Tryd.pinned (.plain (OpenSpec.upto fnExactUnitSpec)) fnExactUnitUptoCard

/-- THE SECOND FORM's CARD OF 'laws.FnExactForce'. -/
def fnExactForceUptoCard : Claim7 := { stood := { row := fnExactForceUptoRow, standIns := [], harness := (true, "6a21988af54e996a6b983aa63c4c4b40b5684ff355eb3d190e4ff2a5fd58b33d"), looks := false }, kinds := [], alts := [], laidByText := true, laidKinds := [.data], laidTests := true, laidLooks := .later }
def FnExactForceUptoCardSaid : Prop := Claim7.holds Tryd.pinned (.plain (OpenSpec.upto fnExactForceSpec)) fnExactForceUptoCard

/-- THE SECOND FORM's CARD OF 'laws.FnExactLeaves'. -/
def fnExactLeavesUptoCard : Claim7 := { stood := { row := fnExactLeavesUptoRow, standIns := [], harness := (true, "6a21988af54e996a6b983aa63c4c4b40b5684ff355eb3d190e4ff2a5fd58b33d"), looks := false }, kinds := [], alts := [], laidByText := true, laidKinds := [.data], laidTests := true, laidLooks := .later }
def FnExactLeavesUptoCardSaid : Prop := Claim7.holds Tryd.pinned (.plain (OpenSpec.upto fnExactLeavesSpec)) fnExactLeavesUptoCard
end Rows
end Go.Proofs.YtbhphndlklmocaaDoor
