/-
  DERIVED. GIVEN WITH THE SEED: THE CARDS: each row of YtmbmkbkghblcmaaDoorRows.lean that lists a variable, with what it lists TIED to the program's text (the seventh form; the later family's looks); each row that meets fmt, with fmt's text TOLD by the authors' own Lean function (tested against real Go, not proved from fmt's source: count such statements apart). THE CARD IS WHAT COUNTS. Prove the row's statement (the work); the ties are given (YtmbmkbkghblcmaaDoorTie.lean); close each card by the builder's one call (the guide's Derived/Test/ToyasCard.lean, 'card_holds'). Laid BY PROGRAM, IN A SANDBOX (cutbox-door.mjs). By AI agents, Wed Nov 11 2026. No macro, syntax, notation, axiom, sorry.
-/
import Derived.Test.YtmbmkbkghblcmaaDoorRows
import GoSem.ClaimSeven
namespace Go.Proofs.YtmbmkbkghblcmaaDoor
namespace Rows

/-- THE TIED CARD OF 'laws.FnResolve'. -/
def fnResolveCard : Claim7 := { stood := { row := fnResolveRow, standIns := [], harness := (true, "6ef99e929f010124ad47d6322351f587863f92bb4fbc7c9d7fa6ee460b53b452"), looks := false }, kinds := [], alts := [], laidByText := true, laidKinds := [.data], laidTests := true, laidLooks := .later }
def FnResolveCardSaid : Prop := Claim7.holds Tryd.pinned (.plain (OpenSpec.ofChange fnResolveSpec)) fnResolveCard

/-- THE TIED CARD OF 'laws.FnPure'. -/
def fnPureCard : Claim7 := { stood := { row := fnPureRow, standIns := [], harness := (true, "6ef99e929f010124ad47d6322351f587863f92bb4fbc7c9d7fa6ee460b53b452"), looks := false }, kinds := [], alts := [], laidByText := true, laidKinds := [.data], laidTests := true, laidLooks := .later }
def FnPureCardSaid : Prop := Claim7.holds Tryd.pinned (.plain (OpenSpec.ofChange fnPureSpec)) fnPureCard

/-- THE TIED CARD OF 'laws.FnExactClauseSort'. -/
def fnExactClauseSortCard : Claim7 := { stood := { row := fnExactClauseSortRow, standIns := [], harness := (true, "6ef99e929f010124ad47d6322351f587863f92bb4fbc7c9d7fa6ee460b53b452"), looks := false }, kinds := [], alts := [], laidByText := true, laidKinds := [.data], laidTests := true, laidLooks := .later }
def FnExactClauseSortCardSaid : Prop := Claim7.holds Tryd.pinned (.plain (OpenSpec.ofChange fnExactClauseSortSpec)) fnExactClauseSortCard

/-- THE TIED CARD OF 'laws.FnExactResolve'. -/
def fnExactResolveCard : Claim7 := { stood := { row := fnExactResolveRow, standIns := [], harness := (true, "6ef99e929f010124ad47d6322351f587863f92bb4fbc7c9d7fa6ee460b53b452"), looks := false }, kinds := [], alts := [], laidByText := true, laidKinds := [.data], laidTests := true, laidLooks := .later }
def FnExactResolveCardSaid : Prop := Claim7.holds Tryd.pinned (.plain (OpenSpec.ofChange fnExactResolveSpec)) fnExactResolveCard

/-- THE TIED CARD OF 'laws.FnExactPure'. -/
def fnExactPureCard : Claim7 := { stood := { row := fnExactPureRow, standIns := [], harness := (true, "6ef99e929f010124ad47d6322351f587863f92bb4fbc7c9d7fa6ee460b53b452"), looks := false }, kinds := [], alts := [], laidByText := true, laidKinds := [.data], laidTests := true, laidLooks := .later }
def FnExactPureCardSaid : Prop := Claim7.holds Tryd.pinned (.plain (OpenSpec.ofChange fnExactPureSpec)) fnExactPureCard

/-- THE TIED CARD OF 'laws.FnExactFree'. -/
def fnExactFreeCard : Claim7 := { stood := { row := fnExactFreeRow, standIns := [], harness := (true, "6ef99e929f010124ad47d6322351f587863f92bb4fbc7c9d7fa6ee460b53b452"), looks := false }, kinds := [], alts := [], laidByText := true, laidKinds := [.data], laidTests := true, laidLooks := .later }
def FnExactFreeCardSaid : Prop := Claim7.holds Tryd.pinned (.plain (OpenSpec.ofChange fnExactFreeSpec)) fnExactFreeCard

/-- THE SECOND FORM's CARD OF 'laws.FnResolve'. -/
def fnResolveUptoCard : Claim7 := { stood := { row := fnResolveUptoRow, standIns := [], harness := (true, "6ef99e929f010124ad47d6322351f587863f92bb4fbc7c9d7fa6ee460b53b452"), looks := false }, kinds := [], alts := [], laidByText := true, laidKinds := [.data], laidTests := true, laidLooks := .later }
def FnResolveUptoCardSaid : Prop := Claim7.holds Tryd.pinned (.plain (OpenSpec.upto fnResolveSpec)) fnResolveUptoCard

/-- THE SECOND FORM's CARD OF 'laws.FnPure'. -/
def fnPureUptoCard : Claim7 := { stood := { row := fnPureUptoRow, standIns := [], harness := (true, "6ef99e929f010124ad47d6322351f587863f92bb4fbc7c9d7fa6ee460b53b452"), looks := false }, kinds := [], alts := [], laidByText := true, laidKinds := [.data], laidTests := true, laidLooks := .later }
def FnPureUptoCardSaid : Prop := Claim7.holds Tryd.pinned (.plain (OpenSpec.upto fnPureSpec)) fnPureUptoCard

/-- THE SECOND FORM's CARD OF 'laws.FnExactClauseSort'. -/
def fnExactClauseSortUptoCard : Claim7 := { stood := { row := fnExactClauseSortUptoRow, standIns := [], harness := (true, "6ef99e929f010124ad47d6322351f587863f92bb4fbc7c9d7fa6ee460b53b452"), looks := false }, kinds := [], alts := [], laidByText := true, laidKinds := [.data], laidTests := true, laidLooks := .later }
def FnExactClauseSortUptoCardSaid : Prop := Claim7.holds Tryd.pinned (.plain (OpenSpec.upto fnExactClauseSortSpec)) fnExactClauseSortUptoCard

/-- THE SECOND FORM's CARD OF 'laws.FnExactResolve'. -/
def fnExactResolveUptoCard : Claim7 := { stood := { row := fnExactResolveUptoRow, standIns := [], harness := (true, "6ef99e929f010124ad47d6322351f587863f92bb4fbc7c9d7fa6ee460b53b452"), looks := false }, kinds := [], alts := [], laidByText := true, laidKinds := [.data], laidTests := true, laidLooks := .later }
def FnExactResolveUptoCardSaid : Prop := Claim7.holds Tryd.pinned (.plain (OpenSpec.upto fnExactResolveSpec)) fnExactResolveUptoCard

/-- THE SECOND FORM's CARD OF 'laws.FnExactPure'. -/
def fnExactPureUptoCard : Claim7 := { stood := { row := fnExactPureUptoRow, standIns := [], harness := (true, "6ef99e929f010124ad47d6322351f587863f92bb4fbc7c9d7fa6ee460b53b452"), looks := false }, kinds := [], alts := [], laidByText := true, laidKinds := [.data], laidTests := true, laidLooks := .later }
def FnExactPureUptoCardSaid : Prop := Claim7.holds Tryd.pinned (.plain (OpenSpec.upto fnExactPureSpec)) fnExactPureUptoCard

/-- THE SECOND FORM's CARD OF 'laws.FnExactFree'. -/
def fnExactFreeUptoCard : Claim7 := { stood := { row := fnExactFreeUptoRow, standIns := [], harness := (true, "6ef99e929f010124ad47d6322351f587863f92bb4fbc7c9d7fa6ee460b53b452"), looks := false }, kinds := [], alts := [], laidByText := true, laidKinds := [.data], laidTests := true, laidLooks := .later }
def FnExactFreeUptoCardSaid : Prop := Claim7.holds Tryd.pinned (.plain (OpenSpec.upto fnExactFreeSpec)) fnExactFreeUptoCard
end Rows
end Go.Proofs.YtmbmkbkghblcmaaDoor
