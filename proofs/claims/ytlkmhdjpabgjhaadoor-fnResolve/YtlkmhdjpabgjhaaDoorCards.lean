/-
  DERIVED. GIVEN WITH THE SEED: THE CARDS: each row of YtlkmhdjpabgjhaaDoorRows.lean that lists a variable, with what it lists TIED to the program's text (the seventh form; the later family's looks); each row that meets fmt, with fmt's text TOLD by the authors' own Lean function (tested against real Go, not proved from fmt's source: count such statements apart). THE CARD IS WHAT COUNTS. Prove the row's statement (the work); the ties are given (YtlkmhdjpabgjhaaDoorTie.lean); close each card by the builder's one call (the guide's Derived/Test/ToyasCard.lean, 'card_holds'). Laid BY PROGRAM, IN A SANDBOX (cutbox-door.mjs). By AI agents, Wed Nov 11 2026. No macro, syntax, notation, axiom, sorry.
-/
import Derived.Test.YtlkmhdjpabgjhaaDoorRows
import GoSem.ClaimSeven
namespace Go.Proofs.YtlkmhdjpabgjhaaDoor
namespace Rows

/-- THE TIED CARD OF 'laws.FnResolve'. -/
def fnResolveCard : Claim7 := { stood := { row := fnResolveRow, standIns := [], harness := (true, "074a58fa03aef9428570cabfb885adcfba0ceee3fd186c81ddb7794d7e0d5aec"), looks := false }, kinds := [], alts := [], laidByText := true, laidKinds := [.data], laidTests := true, laidLooks := .later }
def FnResolveCardSaid : Prop := Claim7.holds Tryd.pinned (.plain (OpenSpec.ofChange fnResolveSpec)) fnResolveCard

/-- THE TIED CARD OF 'laws.FnCnfSort'. -/
def fnCnfSortCard : Claim7 := { stood := { row := fnCnfSortRow, standIns := [], harness := (true, "074a58fa03aef9428570cabfb885adcfba0ceee3fd186c81ddb7794d7e0d5aec"), looks := false }, kinds := [], alts := [], laidByText := true, laidKinds := [.data], laidTests := true, laidLooks := .later }
def FnCnfSortCardSaid : Prop := Claim7.holds Tryd.pinned (.plain (OpenSpec.ofChange fnCnfSortSpec)) fnCnfSortCard

/-- THE TIED CARD OF 'laws.FnExactCnfSort'. -/
def fnExactCnfSortCard : Claim7 := { stood := { row := fnExactCnfSortRow, standIns := [], harness := (true, "074a58fa03aef9428570cabfb885adcfba0ceee3fd186c81ddb7794d7e0d5aec"), looks := false }, kinds := [], alts := [], laidByText := true, laidKinds := [.data], laidTests := true, laidLooks := .later }
def FnExactCnfSortCardSaid : Prop := Claim7.holds Tryd.pinned (.plain (OpenSpec.ofChange fnExactCnfSortSpec)) fnExactCnfSortCard

/-- THE SECOND FORM's CARD OF 'laws.FnResolve'. -/
def fnResolveUptoCard : Claim7 := { stood := { row := fnResolveUptoRow, standIns := [], harness := (true, "074a58fa03aef9428570cabfb885adcfba0ceee3fd186c81ddb7794d7e0d5aec"), looks := false }, kinds := [], alts := [], laidByText := true, laidKinds := [.data], laidTests := true, laidLooks := .later }
def FnResolveUptoCardSaid : Prop := Claim7.holds Tryd.pinned (.plain (OpenSpec.upto fnResolveSpec)) fnResolveUptoCard

/-- THE SECOND FORM's CARD OF 'laws.FnCnfSort'. -/
def fnCnfSortUptoCard : Claim7 := { stood := { row := fnCnfSortUptoRow, standIns := [], harness := (true, "074a58fa03aef9428570cabfb885adcfba0ceee3fd186c81ddb7794d7e0d5aec"), looks := false }, kinds := [], alts := [], laidByText := true, laidKinds := [.data], laidTests := true, laidLooks := .later }
def FnCnfSortUptoCardSaid : Prop := Claim7.holds Tryd.pinned (.plain (OpenSpec.upto fnCnfSortSpec)) fnCnfSortUptoCard

/-- THE SECOND FORM's CARD OF 'laws.FnExactCnfSort'. -/
def fnExactCnfSortUptoCard : Claim7 := { stood := { row := fnExactCnfSortUptoRow, standIns := [], harness := (true, "074a58fa03aef9428570cabfb885adcfba0ceee3fd186c81ddb7794d7e0d5aec"), looks := false }, kinds := [], alts := [], laidByText := true, laidKinds := [.data], laidTests := true, laidLooks := .later }
def FnExactCnfSortUptoCardSaid : Prop := Claim7.holds Tryd.pinned (.plain (OpenSpec.upto fnExactCnfSortSpec)) fnExactCnfSortUptoCard
end Rows
end Go.Proofs.YtlkmhdjpabgjhaaDoor
